/- Rosters of hours: all new rosters, in the specification's words. -/
import Derived.Test.YtegkgfiaegpihaaF16

import Derived.Test.YtegkgfiaegpihaaF7

set_option linter.unusedSimpArgs false

set_option linter.unusedVariables false

namespace Go.Proofs.Ytegkgfiaegpihaa

open Go.RowKit

theorem lists_ok (D : Ro) (p q : Option Addr) (c d : Nat) (hD : OkP D) : ∀ j, ListsOk D p q c d j
  | 0 => lists_zero D p q c d hD
  | j + 1 => lists_more D p q c d j hD (lists_ok D p q c d hD j)
set_option maxRecDepth 100000 in
set_option maxHeartbeats 2000000 in
theorem askR_any (D : Ro) (p q : Option Addr) (c d : Nat) (is : Bool) (w : World) (hn : D.n ≤ maxLen) (hm : D.m ≤ maxLen) (hi : RoIn w w.heap.size D p q) :
    Calls Try.prog 91 #[.agg #[.slice p D.n c, .slice q D.m d], .bool is] w fun e w' => e = .returned (.int .i64 (chkE D.ok is)) ∧ Below w.heap.size w w' := by
  obtain ⟨w1, x1, hw1, hb1, hz1, F0, F1, _⟩ := box_ro w p q D.n D.m c d
  have HB := Lib.hid hb1
  have HI : Hid (∀ x : Ext w1, RoIn x.v x.v.heap.size D p q) := fun x => (hi.bel hb1).bel x.b
  clear hb1 hz1 hi
  cases ho : D.ok with
  | false =>
    have HC := Lib.hid (chk_no (D := D) (b := true) ho)
    have hv : chkE false is = 80 := rfl
    rw [hv]
    have j0 : ((80 : Int) != 0) = true := by decide
    clear ho
    go_enter Try.func91, Try.ntmps91
    go_wp2_with fail
    refine (quiet_x (checkR_iv HC.out _ hn hm (HI.out _))).mono ?_
    rintro e w' ⟨rfl, y, rfl⟩
    go_wp2
    go_ret
    exact ⟨rfl, bT HB.out y.b⟩
  | true =>
    have HC := Lib.hid (chk_ok (D := D) ho)
    have j0 : ((0 : Int) != 0) = false := by decide
    clear ho
    cases is with
    | true =>
      go_enter Try.func91, Try.ntmps91
      go_wp2_with fail
      refine (quiet_x (checkR_iv HC.out _ hn hm (HI.out _))).mono ?_
      rintro e w' ⟨rfl, y, rfl⟩
      go_wp2
      go_ret
      exact ⟨rfl, bT HB.out y.b⟩
    | false =>
      go_enter Try.func91, Try.ntmps91
      go_wp2_with fail
      refine (quiet_x (checkR_iv HC.out _ hn hm (HI.out _))).mono ?_
      rintro e w' ⟨rfl, y, rfl⟩
      go_wp2
      go_ret
      exact ⟨rfl, bT HB.out y.b⟩
theorem askR_is {D : Ro} {p q : Option Addr} {c d : Nat} {is : Bool} {v : Int} (h : chkE D.ok is = v) (w : World) (hn : D.n ≤ maxLen) (hm : D.m ≤ maxLen) (hi : RoIn w w.heap.size D p q) :
    Calls Try.prog 91 #[.agg #[.slice p D.n c, .slice q D.m d], .bool is] w fun e w' => e = .returned (.int .i64 v) ∧ Below w.heap.size w w' := by subst h; exact askR_any D p q c d is w hn hm hi
set_option maxRecDepth 100000 in
set_option maxHeartbeats 2000000 in
theorem news_err (D : Ro) (p q : Option Addr) (c d : Nat) (is : Bool) (er : Int) (w : World) (hn : D.n ≤ maxLen) (hm : D.m ≤ maxLen) (hi : RoIn w w.heap.size D p q) (he : chkE D.ok is = er) (h0 : er ≠ 0) :
    Calls Try.prog 85 #[.agg #[.slice p D.n c, .slice q D.m d], .bool is] w fun e w' => e = .returned (.tuple #[.slice none 0 0, .int .i64 er]) ∧ Below w.heap.size w w' := by
  obtain ⟨w1, x1, hw1, hb1, hz1, F0, F1, _⟩ := box_ro w p q D.n D.m c d
  have HB := Lib.hid hb1
  have HI : Hid (∀ x : Ext w1, RoIn x.v x.v.heap.size D p q) := fun x => (hi.bel hb1).bel x.b
  have HE := Lib.hid he
  have j0 : (er != 0) = true := by simp [h0]
  clear hb1 hz1 hi he h0
  go_enter Try.func85, Try.ntmps85
  go_wp2_with fail
  refine (quiet_x (askR_is HE.out _ hn hm (HI.out _))).mono ?_
  rintro e w' ⟨rfl, y, rfl⟩
  go_wp2
  go_ret2
  exact ⟨rfl, bT HB.out y.b⟩
theorem filt_take {f : List Int → Bool} {L : List (List Int)} {k : Nat} (h : k < L.length) : (L.take (k + 1)).filter f = (L.take k).filter f ++ (if f (L.getD k []) then [L.getD k []] else []) := by
  rw [List.take_add_one, List.filter_append, List.getElem?_eq_getElem h]
  simp only [List.getD_eq_getElem?_getD, List.getElem?_eq_getElem h, Option.getD_some, Option.toList_some]
  cases hf : f L[k] <;> simp [hf]
theorem okM_true {D : Ro} {l : List Int} : okM D (fun _ _ => true) l = isNw D l.length (asF l) := by
  unfold okM
  have : allN (fun _ => true) D.m = true := allN_iff.2 fun _ _ => rfl
  rw [this, Bool.and_true]
theorem LRow.len {w : World} {lo : Nat} {l : List Int} {v : Value} (h : LRow w lo l v) : ∃ q c, v = .slice q l.length c := by obtain ⟨q, c, e, _⟩ := h; exact ⟨q, c, e⟩
/-- one list more in an owned row -/
theorem OutS.one {base : Nat} {L : List (List Int)} {v v' u : Value} {l : List Int} {w w' wa : World} {xs : List Value} (hx : ∀ i, i < L.length → ∃ u, xs[i]? = some u ∧ LRow w 0 (L.getD i []) u ∧ (0 < (L.getD i []).length → ∀ g, u.ownBlock = some g → some g ≠ v.ownBlock))
    (ho : w.ownsRow base 22 1 v L.length xs) (hb : Below w.heap.size w wa) (hu : LRow w 0 l u) (hue : 0 < l.length → ∀ g, u.ownBlock = some g → some g ≠ v.ownBlock)
    (ho' : w'.ownsRow base 22 1 v' (L.length + 1) (xs ++ [u])) (hg : wa.grownBy w' v.ownBlock) (hn : ∀ g, v'.ownBlock = some g → v.ownBlock = some g ∨ wa.heap.size ≤ g) : OutS base 0 (L ++ [l]) v' w' := by
  refine OutS.app (lo2 := 0) (M := [l]) (us := [u]) (Nat.le_refl _) (own_below ho hb) (fun i hi => ?_) rfl (fun i hi => ?_) ho' hg hn
  · obtain ⟨u, a, b, c⟩ := hx i hi
    exact ⟨u, a, b.bel hb, c⟩
  · have hi0 : i = 0 := by simp at hi; exact hi
    subst hi0
    exact ⟨u, rfl, hu.bel hb, hue⟩
set_option maxRecDepth 100000 in
set_option maxHeartbeats 8000000 in
theorem news_all (D : Ro) (p q : Option Addr) (c d : Nat) (w : World) (hD : OkP D) (hi : RoIn w w.heap.size D p q) :
    Calls Try.prog 85 #[.agg #[.slice p D.n c, .slice q D.m d], .bool true] w fun e w' => (exB D = false ∧ e = .returned (.tuple #[.slice none 0 0, .int .i64 3]) ∨ exB D = true ∧ ∃ y c', e = .returned (.tuple #[.slice y (nws D).length c', .int .i64 0]) ∧ LstIn w' 0 (nws D) y) ∧ Below w.heap.size w w' := by
  obtain ⟨i5, hi5, hz5, hz5', hz5''⟩ := info_parts infoL
  have I5 := Lib.hid hi5; have Z5 := Lib.hid hz5; have Z5' := Lib.hid hz5'; have Z5'' := Lib.hid hz5''; clear hi5 hz5 hz5' hz5''
  obtain ⟨w1, x1, hw1, hb1, hz1, F0i, F1i, _⟩ := box_ro w p q D.n D.m c d
  have HB := Lib.hid hb1
  have HI1 : Hid (∀ x : Ext w1, RoIn x.v x.v.heap.size D p q) := fun x => (hi.bel hb1).bel x.b
  have HD := Lib.hid hD
  have hm6 := hD.m; have hn8 := hD.n
  have HC := Lib.hid (show chkE D.ok true = 0 from chk_ok (Ro.ok_iff.2 hD))
  have j0 : ((0 : Int) != 0) = false := by decide
  have HLL := Lib.hid (lists_ok D p q c d hD D.m)
  have HLE := Lib.hid (lsts_le hD (j := D.m) (s := 0) (fs := []) (by omega))
  have HMM := Lib.hid (fun l (h : l ∈ lsts D D.m 0 []) => (lsts_mem (D := D) (j := D.m) (s := 0) (fs := []) rfl h).1)
  have HNW := Lib.hid (show (lsts D D.m 0 []).filter (okM D (fun _ _ => true)) = nws D from rfl)
  obtain ⟨L, hL⟩ : ∃ L, lsts D D.m 0 [] = L := ⟨_, rfl⟩
  have HLL0 := Lib.hid (fun (V : World) (hV : RoIn V V.heap.size D p q) => (show Calls Try.prog 106 #[.agg #[.slice p D.n c, .slice q D.m d], .slice none 0 0] V fun e w' => ∃ y c', e = .returned (.slice y (lsts D D.m 0 []).length c') ∧ Below V.heap.size V w' ∧ LstIn w' 0 (lsts D D.m 0 []) y from HLL.out 0 [] none 0 0 V rfl (by omega) (Nat.zero_le _) hV ⟨none, 0, rfl, fun h => by cases h⟩))
  rw [hL] at HLL0 HLE HMM HNW
  clear hb1 hz1 hi hD hL HLL
  go_enter Try.func85, Try.ntmps85
  go_wp2_with fail
  refine (quiet_x (askR_is HC.out _ (by unfold maxLen; omega) (by unfold maxLen; omega) (HI1.out _))).mono ?_
  rintro e w' ⟨rfl, y, rfl⟩
  go_wp2_with fail
  refine (HLL0.out _ (HI1.out _)).mono ?_
  rintro e w2 ⟨yl, cl, rfl, hbl, hls⟩
  have HX2 := Lib.hid (bT y.b hbl)
  have HLS := Lib.hid hls
  clear hbl hls hw1
  have F0 : ∀ z : Ext w2, z.v.cell? ⟨w.heap.size, 0, none⟩ = some (.slice p D.n c) := fun z => F0i (z.up HX2.out)
  have F1 : ∀ z : Ext w2, z.v.cell? ⟨w.heap.size, 1, none⟩ = some (.slice q D.m d) := fun z => F1i (z.up HX2.out)
  have HI : Hid (∀ x : Ext w2, RoIn x.v x.v.heap.size D p q) := fun x => HI1.out (x.up HX2.out)
  have HBz : Hid (∀ z : Ext w2, Below w.heap.size w z.v) := fun z => bT HB.out (bT HX2.out z.b)
  clear F0i F1i HI1
  go_wp2
  go_loopw [7, 9] (fun v i wr => ∃ k : Nat, i = .int .i64 (k : Int) ∧ k ≤ L.length ∧ Below w2.heap.size w2 wr ∧ OutS w2.heap.size 0 ((L.take k).filter (okM D (fun _ _ => true))) v wr) (fun v i _ => L.length - (intOf i).toNat)
  case atStart => exact ⟨0, rfl, Nat.zero_le _, Below.refl _ _, by rw [List.take_zero]; exact OutS.nil _ _ _⟩
  case round =>
    obtain ⟨k, rfl, hk, hrb, hout⟩ := hrel
    have HRB := Lib.hid hrb; have HOUT := Lib.hid hout
    clear hrb hout
    by_cases hlt : k < L.length
    · have hle := HLE.out
      have jk : decide ((k : Int) < (L.length : Int)) = true := by simp; omega
      have hkl : (k : Int) < (L.length : Int) := by omega
      have hmem : L.getD k [] ∈ L := by simp only [List.getD_eq_getElem?_getD, List.getElem?_eq_getElem hlt, Option.getD_some]; exact List.getElem_mem hlt
      have hlen := HMM.out _ hmem
      rw [Nat.zero_add] at hlen
      have HFT := Lib.hid (filt_take (f := okM D (fun _ _ => true)) hlt)
      have HFL := Lib.hid (show ((L.take k).filter (okM D (fun _ _ => true))).length ≤ 262144 from Nat.le_trans (List.length_filter_le _ _) (by rw [List.length_take]; omega))
      obtain ⟨l, hl⟩ : ∃ l, L.getD k [] = l := ⟨_, rfl⟩
      obtain ⟨bq, oq, hyq, hbq, hcq⟩ := HLS.out (by omega)
      obtain ⟨u, hu, hur⟩ := hcq k hlt
      rw [hl] at hur hlen HFT
      subst hyq
      obtain ⟨qu, cu, rfl⟩ := hur.len
      rw [hlen] at hu hur
      have HUR := Lib.hid hur
      have C0 : ∀ z : Ext wr, z.v.cell? ⟨bq, oq + k, none⟩ = some (.slice qu D.m cu) := fun z => ((bT HRB.out z.b).cell (p := ⟨bq, oq + k, none⟩) hbq).trans hu
      have FR0 : ∀ z : Ext wr, z.v.cell? ⟨w.heap.size, 0, none⟩ = some (.slice p D.n c) := fun z => F0 (z.up HRB.out)
      have FR1 : ∀ z : Ext wr, z.v.cell? ⟨w.heap.size, 1, none⟩ = some (.slice q D.m d) := fun z => F1 (z.up HRB.out)
      have HNU : Hid (∀ z : Ext w2, NumIn z.v z.v.heap.size D.m (asF l) qu) := fun z => by
        obtain ⟨q', c', e', h'⟩ := (HUR.out.bel z.b).num
        rw [hlen] at e' h'
        cases e'
        exact h'
      rw [okM_true, hlen] at HFT
      have HHL := Lib.hid hlen
      have HOK := Lib.hid (fun b (h : isNw D D.m (asF l) = b) => (fun z : Ext wr => isNewR_is (p := p) (q := q) (c := c) (d := d) (lc := cu) h z.v HD.out (HI.out (z.up HRB.out)) (HNU.out (z.up HRB.out))))
      have HUB : Hid (∀ g, (Value.slice qu D.m cu).ownBlock = some g → 0 < D.m → g < w2.heap.size) := fun g hg h0 => by
        obtain ⟨q', c', e', h'⟩ := HUR.out
        rw [hlen] at e' h'
        cases e'
        obtain ⟨g2, e2, _, b2, _⟩ := h' h0
        have : g2 = g := by rw [e2] at hg; simpa [Value.ownBlock] using hg
        omega
      have hle2 := hle.2
      clear hle hmem hl hu hur hcq hlen hk
      obtain ⟨y00, hy00⟩ := rebase wr
      cases hb : isNw D D.m (asF l) with
      | false =>
        rw [hb] at HFT
        have HOKf := Lib.hid (HOK.out false hb)
        clear hb HOK
        rw [hy00]
        go_wp2
        refine quiet_e (by kernel_rfl) (by kernel_rfl) ?_
        repeat (first | go_big_quiet_step ((first | (go_at_call 23; exact quiet_x (HOKf.out _)))) | quiet_step ((first | (go_at_call 23; exact quiet_x (HOKf.out _)))))
        refine wpQuiet_nil ?_
        intro w6 hw6
        obtain ⟨y3, rfl⟩ := hw6
        go_wp2
        go_roundw
        case rel => exact ⟨k + 1, by go_num, hlt, bT HRB.out y3.b, by rw [HFT.out]; simp only [Bool.false_eq_true, if_false, List.append_nil]; exact HOUT.out.bel y3.b⟩
        case measure => first | (simp [intOf]; done) | (simp [intOf]; omega)
      | true =>
        rw [hb] at HFT
        have HOKf := Lib.hid (HOK.out true hb)
        clear hb HOK
        rw [hy00]
        go_wp2
        refine quiet_e (by kernel_rfl) (by kernel_rfl) ?_
        repeat (first | go_big_quiet_step ((first | (go_at_call 23; exact quiet_x (HOKf.out _)))) | quiet_step ((first | (go_at_call 23; exact quiet_x (HOKf.out _)))))
        refine wpQuiet_nil ?_
        intro w6 hw6
        obtain ⟨y3, rfl⟩ := hw6
        obtain ⟨xs, hxo, hxx⟩ := (HOUT.out.bel y3.b).o
        have HXO := Lib.hid hxo; have HXX := Lib.hid hxx
        clear hxo hxx
        go_wp2_with (at_builtin; go_loud (refine wpList_append_one rfl _ _ 95 rfl w2.heap.size 22 i5 _ 1 24 Try.underlying95 I5.out Z5.out Z5'.out Z5''.out rfl (by decide) _ _ _ rfl (HXO.out.alloc _) ⟨y3.v.heap.size, 0, none⟩ 1 1 [.slice qu D.m cu] rfl rfl (lit_cellsQ _ _ _ _ (by simp)) ?h1c (by omega) ?h2c ?h3c ?h4c ?_))
        case h1c => simp [Value.oneCell']
        case h2c => have := HFL.out; unfold maxLen; omega
        case h3c => have := HFL.out; omega
        case h4c => have := (bT HRB.out y3.b).size; first | omega | (simp; omega)
        intro v' w6 hown hgrow hnew
        have hone := OutS.one (l := l) HXX.out HXO.out (bA (Below.refl _ _) _) ((HUR.out.bel (bT HRB.out y3.b))) (fun h0 g hg e => by
          have h1 := HUB.out g hg (by have := HHL.out; omega)
          have h2 := (HOUT.out.own g e.symm).1
          omega) hown hgrow (fun g hg => by have := hnew g hg; simpa using this)
        have hbz := below_grown (bA (bT HRB.out y3.b) _) (HXO.out.alloc _) (Nat.le_refl _) hgrow
        have HONE := Lib.hid hone; have HBZ6 := Lib.hid hbz
        clear hown hgrow hnew hone hbz
        go_wp2
        go_roundw
        case rel => exact ⟨k + 1, by go_num, hlt, HBZ6.out, by rw [HFT.out]; exact HONE.out⟩
        case measure => first | (simp [intOf]; done) | (simp [intOf]; omega)
    · have hke : k = L.length := by omega
      subst hke
      have jk : decide ((L.length : Int) < (L.length : Int)) = false := by simp
      rw [List.take_length, HNW.out] at HOUT
      obtain ⟨pq, pc, rfl, hpl⟩ := HOUT.out.lst
      have HPL := Lib.hid hpl
      have hnl := nws_nil HD.out
      clear hpl hk hlt
      obtain ⟨y00, hy00⟩ := rebase wr
      have HBF := Lib.hid (show Below w.heap.size w y00.v by rw [← hy00]; exact bT HB.out (bT HX2.out HRB.out))
      rw [hy00] at HPL
      rw [hy00]
      cases hx : exB D with
      | false =>
        have h0 : (nws D).length = 0 := by rw [hnl.2 hx]; rfl
        rw [h0]
        have HXE := Lib.hid hx
        clear hx hnl h0
        have j1 : ((0 : Int) == 0) = true := by decide
        go_wp2
        go_ret2
        first | exact ⟨.inl ⟨HXE.out, rfl⟩, HBF.out⟩ | exact ⟨.inl rfl, HBF.out⟩
      | true =>
        have h0 : (nws D).length ≠ 0 := fun h => by
          have := hnl.1 (List.eq_nil_of_length_eq_zero h)
          rw [hx] at this; cases this
        have HXE := Lib.hid hx
        obtain ⟨n, hn⟩ : ∃ n, (nws D).length = n := ⟨_, rfl⟩
        rw [hn] at h0 ⊢
        have j1 : ((n : Int) == 0) = false := by simp [h0]
        have j2 : ¬ n = 0 := h0
        have HNN := Lib.hid hn
        clear hx hnl h0 hn
        go_wp2
        go_ret2
        refine ⟨.inr ⟨HXE.out, ?_⟩, HBF.out⟩
        rw [HNN.out]
        first | exact ⟨pq, ⟨pc, rfl⟩, HPL.out⟩ | exact ⟨pq, pc, rfl, HPL.out⟩
end Go.Proofs.Ytegkgfiaegpihaa
