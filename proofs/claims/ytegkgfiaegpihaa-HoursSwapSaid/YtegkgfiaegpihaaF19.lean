/- Rosters of hours: Roster, Least, Far and Fewest of the specification. -/
import Derived.Test.YtegkgfiaegpihaaF18

import Derived.Test.YtegkgfiaegpihaaF8

set_option linter.unusedSimpArgs false

set_option linter.unusedVariables false

namespace Go.Proofs.Ytegkgfiaegpihaa

open Go.RowKit

theorem NumIn.cong {w : World} {K l : Nat} {f g : Nat → Int} {q : Option Addr} (h : NumIn w K l f q) (e : ∀ k, k < l → f k = g k) : NumIn w K l g q := fun h0 => by
  obtain ⟨b, o, e2, hl, hc⟩ := h h0
  exact ⟨b, o, e2, hl, fun k hk => by rw [hc k hk, e k hk]⟩
/-- news says an error -/
def NewsEr (D : Ro) (p q : Option Addr) (c d : Nat) (is : Bool) (er : Int) : Prop := er ≠ 0 ∧ ∀ V, RoIn V V.heap.size D p q → Calls Try.prog 85 #[.agg #[.slice p D.n c, .slice q D.m d], .bool is] V fun e w' => e = .returned (.tuple #[.slice none 0 0, .int .i64 er]) ∧ Below V.heap.size V w'
theorem news_none (D : Ro) (p q : Option Addr) (c d : Nat) (hD : OkP D) (hx : exB D = false) : NewsEr D p q c d true 3 :=
  ⟨by decide, fun V hV => (news_all D p q c d V hD hV).mono fun e w' ⟨h, hb⟩ => by
    rcases h with ⟨_, h⟩ | ⟨h, _⟩
    · exact ⟨h, hb⟩
    · rw [hx] at h; cases h⟩
theorem news_bad (D : Ro) (p q : Option Addr) (c d : Nat) (is : Bool) (er : Int) (hn : D.n ≤ maxLen) (hm : D.m ≤ maxLen) (he : chkE D.ok is = er) (h0 : er ≠ 0) : NewsEr D p q c d is er :=
  ⟨h0, fun V hV => news_err D p q c d is er V hn hm hV he h0⟩
theorem news_some (D : Ro) (p q : Option Addr) (c d : Nat) (hD : OkP D) (hx : exB D = true) (V : World) (hV : RoIn V V.heap.size D p q) :
    Calls Try.prog 85 #[.agg #[.slice p D.n c, .slice q D.m d], .bool true] V fun e w' => ∃ y c', e = .returned (.tuple #[.slice y (nws D).length c', .int .i64 0]) ∧ Below V.heap.size V w' ∧ LstIn w' 0 (nws D) y :=
  (news_all D p q c d V hD hV).mono fun e w' ⟨h, hb⟩ => by
    rcases h with ⟨h, _⟩ | ⟨_, y, c', h1, h2⟩
    · rw [hx] at h; cases h
    · exact ⟨y, c', h1, hb, h2⟩
theorem nws_pos {D : Ro} (hD : OkP D) (hx : exB D = true) : 0 < (nws D).length := by
  rcases Nat.eq_zero_or_pos (nws D).length with h | h
  · have := (nws_nil hD).1 (List.eq_nil_of_length_eq_zero h)
    rw [hx] at this; cases this
  · exact h
set_option maxRecDepth 100000 in
set_option maxHeartbeats 2000000 in
theorem rosterR_er (D : Ro) (p q : Option Addr) (c d : Nat) (er : Int) (w : World) (hi : RoIn w w.heap.size D p q) (hne : NewsEr D p q c d true er) :
    Calls Try.prog 51 #[.agg #[.slice p D.n c, .slice q D.m d]] w fun e w' => e = .returned (.tuple #[.slice none 0 0, .int .i64 er]) ∧ Below w.heap.size w w' := by
  obtain ⟨w1, x1, hw1, hb1, hz1, F0, F1, _⟩ := box_ro w p q D.n D.m c d
  have HB := Lib.hid hb1
  have HI : Hid (∀ x : Ext w1, RoIn x.v x.v.heap.size D p q) := fun x => (hi.bel hb1).bel x.b
  clear hb1 hz1 hi
  have HNE := Lib.hid hne.2
  have HN2 := Lib.hid hne
  have j0 : (er != 0) = true := by simp [hne.1]
  clear hne
  go_enter Try.func51, Try.ntmps51
  go_wp2_with fail
  refine (quiet_x (HNE.out _ (HI.out _))).mono ?_
  rintro e w' ⟨rfl, y, rfl⟩
  go_wp2
  go_ret2
  exact ⟨rfl, bT HB.out y.b⟩
set_option maxRecDepth 100000 in
set_option maxHeartbeats 2000000 in
theorem leastRR_er (D : Ro) (p q : Option Addr) (c d : Nat) (er : Int) (w : World) (hi : RoIn w w.heap.size D p q) (hne : NewsEr D p q c d true er) :
    Calls Try.prog 50 #[.agg #[.slice p D.n c, .slice q D.m d]] w fun e w' => e = .returned (.tuple #[.int .i64 0, .int .i64 er]) ∧ Below w.heap.size w w' := by
  obtain ⟨w1, x1, hw1, hb1, hz1, F0, F1, _⟩ := box_ro w p q D.n D.m c d
  have HB := Lib.hid hb1
  have HI : Hid (∀ x : Ext w1, RoIn x.v x.v.heap.size D p q) := fun x => (hi.bel hb1).bel x.b
  clear hb1 hz1 hi
  have HNE := Lib.hid hne.2
  have HN2 := Lib.hid hne
  have j0 : (er != 0) = true := by simp [hne.1]
  clear hne
  go_enter Try.func50, Try.ntmps50
  go_wp2_with fail
  refine (quiet_x (rosterR_er D p q c d er _ (HI.out _) HN2.out)).mono ?_
  rintro e w' ⟨rfl, y, rfl⟩
  go_wp2
  go_ret2
  exact ⟨rfl, bT HB.out y.b⟩
set_option maxRecDepth 100000 in
set_option maxHeartbeats 2000000 in
theorem farRR_er (D : Ro) (p q : Option Addr) (c d : Nat) (er : Int) (w : World) (hi : RoIn w w.heap.size D p q) (hne : NewsEr D p q c d true er) :
    Calls Try.prog 54 #[.agg #[.slice p D.n c, .slice q D.m d]] w fun e w' => e = .returned (.tuple #[.int .i64 0, .int .i64 er]) ∧ Below w.heap.size w w' := by
  obtain ⟨w1, x1, hw1, hb1, hz1, F0, F1, _⟩ := box_ro w p q D.n D.m c d
  have HB := Lib.hid hb1
  have HI : Hid (∀ x : Ext w1, RoIn x.v x.v.heap.size D p q) := fun x => (hi.bel hb1).bel x.b
  clear hb1 hz1 hi
  have HNE := Lib.hid hne.2
  have HN2 := Lib.hid hne
  have j0 : (er != 0) = true := by simp [hne.1]
  clear hne
  go_enter Try.func54, Try.ntmps54
  go_wp2_with fail
  refine (quiet_x (HNE.out _ (HI.out _))).mono ?_
  rintro e w' ⟨rfl, y, rfl⟩
  go_wp2
  go_ret2
  exact ⟨rfl, bT HB.out y.b⟩
set_option maxRecDepth 100000 in
set_option maxHeartbeats 2000000 in
theorem fewestRR_er (D : Ro) (p q : Option Addr) (c d : Nat) (er : Int) (w : World) (hi : RoIn w w.heap.size D p q) (hne : NewsEr D p q c d true er) :
    Calls Try.prog 56 #[.agg #[.slice p D.n c, .slice q D.m d]] w fun e w' => e = .returned (.tuple #[.int .i64 0, .int .i64 er]) ∧ Below w.heap.size w w' := by
  obtain ⟨w1, x1, hw1, hb1, hz1, F0, F1, _⟩ := box_ro w p q D.n D.m c d
  have HB := Lib.hid hb1
  have HI : Hid (∀ x : Ext w1, RoIn x.v x.v.heap.size D p q) := fun x => (hi.bel hb1).bel x.b
  clear hb1 hz1 hi
  have HNE := Lib.hid hne.2
  have HN2 := Lib.hid hne
  have j0 : (er != 0) = true := by simp [hne.1]
  clear hne
  go_enter Try.func56, Try.ntmps56
  go_wp2_with fail
  refine (quiet_x (HNE.out _ (HI.out _))).mono ?_
  rintro e w' ⟨rfl, y, rfl⟩
  go_wp2
  go_ret2
  exact ⟨rfl, bT HB.out y.b⟩
set_option maxRecDepth 100000 in
set_option maxHeartbeats 2000000 in
theorem fairR_er (D : Ro) (p q : Option Addr) (c d : Nat) (er : Int) (w : World) (hi : RoIn w w.heap.size D p q) (hne : NewsEr D p q c d true er) :
    Calls Try.prog 57 #[.agg #[.slice p D.n c, .slice q D.m d]] w fun e w' => e = .returned (.tuple #[.slice none 0 0, .int .i64 er]) ∧ Below w.heap.size w w' := by
  obtain ⟨w1, x1, hw1, hb1, hz1, F0, F1, _⟩ := box_ro w p q D.n D.m c d
  have HB := Lib.hid hb1
  have HI : Hid (∀ x : Ext w1, RoIn x.v x.v.heap.size D p q) := fun x => (hi.bel hb1).bel x.b
  clear hb1 hz1 hi
  have HNE := Lib.hid hne.2
  have HN2 := Lib.hid hne
  have j0 : (er != 0) = true := by simp [hne.1]
  clear hne
  go_enter Try.func57, Try.ntmps57
  go_wp2_with fail
  refine (quiet_x (HNE.out _ (HI.out _))).mono ?_
  rintro e w' ⟨rfl, y, rfl⟩
  go_wp2
  go_ret2
  exact ⟨rfl, bT HB.out y.b⟩
set_option maxRecDepth 100000 in
set_option maxHeartbeats 4000000 in
theorem rosterR_ok (D : Ro) (p q : Option Addr) (c d : Nat) (w : World) (hD : OkP D) (hx : exB D = true) (hi : RoIn w w.heap.size D p q) :
    Calls Try.prog 51 #[.agg #[.slice p D.n c, .slice q D.m d]] w fun e w' => ∃ y c', e = .returned (.tuple #[.slice y D.m c', .int .i64 0]) ∧ Below w.heap.size w w' ∧ NumIn w' w'.heap.size D.m (rsF D) y := by
  obtain ⟨w1, x1, hw1, hb1, hz1, F0, F1, _⟩ := box_ro w p q D.n D.m c d
  have HB := Lib.hid hb1
  have HI : Hid (∀ x : Ext w1, RoIn x.v x.v.heap.size D p q) := fun x => (hi.bel hb1).bel x.b
  clear hb1 hz1 hi
  have HD := Lib.hid hD; have HX := Lib.hid hx
  have HNS := Lib.hid (fun (V : World) hV => news_some D p q c d hD hx V hV)
  have HNW := Lib.hid (nws_nw hD)
  have hpos := nws_pos hD hx
  have hle := HNW.out.le
  have hm6 := hD.m; have hn8 := hD.n
  have i0 : ((0 : Int) != 0) = false := by decide
  obtain ⟨bl, hb1, hb2, hb3⟩ := nws_best hD hx
  have HBL := Lib.hid hb1; have HB3 := Lib.hid hb3
  clear hb1 hb2 hb3 hD hx
  go_enter Try.func51, Try.ntmps51
  go_wp2_with fail
  refine (HNS.out _ (HI.out _)).mono ?_
  rintro e w2 ⟨yn, cn, rfl, hbn, hln⟩
  obtain ⟨y2, hy2⟩ : ∃ y : Ext w1, w2 = y.v := ⟨⟨w2, bT x1.b hbn⟩, rfl⟩
  subst hy2
  have HLN := Lib.hid hln
  clear hbn hln
  go_wp2_with fail
  refine (leastR_any D (nws D) p q yn c d cn _ HD.out HNW.out hpos (HI.out _) HLN.out).mono ?_
  rintro e w3 ⟨bl2, yb, cb, hfb, rfl, hb3, hnb⟩
  obtain ⟨y3, hy3⟩ : ∃ y : Ext w1, w3 = y.v := ⟨⟨w3, bT y2.b hb3⟩, rfl⟩
  subst hy3
  have e1 : bl2 = bl := by rw [HBL.out] at hfb; cases hfb; rfl
  subst e1
  have HNB := Lib.hid (hnb.cong (g := rsF D) (fun k hk => HB3.out k hk))
  clear hfb hb3 hnb
  go_wp2
  go_ret2
  exact ⟨_, _, rfl, bT HB.out y3.b, HNB.out⟩
set_option maxRecDepth 100000 in
set_option maxHeartbeats 4000000 in
theorem leastRR_ok (D : Ro) (p q : Option Addr) (c d : Nat) (w : World) (hD : OkP D) (hx : exB D = true) (hi : RoIn w w.heap.size D p q) :
    Calls Try.prog 50 #[.agg #[.slice p D.n c, .slice q D.m d]] w fun e w' => e = .returned (.tuple #[.int .i64 (tL D), .int .i64 0]) ∧ Below w.heap.size w w' := by
  obtain ⟨w1, x1, hw1, hb1, hz1, F0, F1, _⟩ := box_ro w p q D.n D.m c d
  have HB := Lib.hid hb1
  have HI : Hid (∀ x : Ext w1, RoIn x.v x.v.heap.size D p q) := fun x => (hi.bel hb1).bel x.b
  clear hb1 hz1 hi
  have HD := Lib.hid hD; have HX := Lib.hid hx
  have i0 : ((0 : Int) != 0) = false := by decide
  obtain ⟨r1, r2⟩ := rs_new hD hx
  have el : tL D = lsC D := by unfold tL; rw [hx]; rfl
  have HCK := Lib.hid (fun (V : World) (Y : Option Addr) (Z : Nat) hV hY => costR_any D p q Y c d Z (rsF D) V hD (r1.inH hD) hV hY)
  rw [r2, ← el] at HCK
  obtain ⟨v, hv⟩ : ∃ v, tL D = v := ⟨_, rfl⟩
  rw [hv] at HCK ⊢
  clear r1 r2 el hv hD hx
  go_enter Try.func50, Try.ntmps50
  go_wp2_with fail
  refine (rosterR_ok D p q c d _ HD.out HX.out (HI.out _)).mono ?_
  rintro e w2 ⟨yn, cn, rfl, hbn, hln⟩
  obtain ⟨y2, hy2⟩ : ∃ y : Ext w1, w2 = y.v := ⟨⟨w2, bT x1.b hbn⟩, rfl⟩
  subst hy2
  have HLN := Lib.hid hln
  clear hbn hln
  go_wp2_with fail
  refine (quiet_x (HCK.out _ _ _ (HI.out _) HLN.out)).mono ?_
  rintro e w' ⟨rfl, y3, rfl⟩
  go_wp2
  go_ret2
  exact ⟨rfl, bT HB.out y3.b⟩
theorem mn_min (n x : Int) : (if x < n then x else n) = min n x ∧ (if n < x then n else x) = min n x := by rw [Int.min_def]; constructor <;> (split <;> split <;> omega)
set_option maxRecDepth 100000 in
set_option maxHeartbeats 8000000 in
theorem farRR_ok (D : Ro) (p q : Option Addr) (c d : Nat) (w : World) (hD : OkP D) (hx : exB D = true) (hi : RoIn w w.heap.size D p q) :
    Calls Try.prog 54 #[.agg #[.slice p D.n c, .slice q D.m d]] w fun e w' => e = .returned (.tuple #[.int .i64 (tM D), .int .i64 0]) ∧ Below w.heap.size w w' := by
  obtain ⟨w1, x1, hw1, hb1, hz1, F0, F1, _⟩ := box_ro w p q D.n D.m c d
  have HB := Lib.hid hb1
  have HI : Hid (∀ x : Ext w1, RoIn x.v x.v.heap.size D p q) := fun x => (hi.bel hb1).bel x.b
  clear hb1 hz1 hi
  have HD := Lib.hid hD; have HX := Lib.hid hx
  have HNS := Lib.hid (fun (V : World) hV => news_some D p q c d hD hx V hV)
  have HNW := Lib.hid (nws_nw hD)
  have hpos := nws_pos hD hx
  have hle := HNW.out.le
  have hm6 := hD.m; have hn8 := hD.n
  have i0 : ((0 : Int) != 0) = false := by decide
  have HRES := Lib.hid (nws_far hD hx (getD_mem hpos))
  have hli : (0 : Int) < ((nws D).length : Int) := by omega
  clear hD hx
  go_enter Try.func54, Try.ntmps54
  go_wp2_with fail
  refine (HNS.out _ (HI.out _)).mono ?_
  rintro e w2 ⟨yn, cn, rfl, hbn, hln⟩
  obtain ⟨y2, hy2⟩ : ∃ y : Ext w1, w2 = y.v := ⟨⟨w2, bT x1.b hbn⟩, rfl⟩
  subst hy2
  obtain ⟨bq, oq, rfl, hbq, _⟩ := hln hpos
  have HLN := Lib.hid (fun z : Ext y2.v => hln.bel z.b)
  have HIz := Lib.hid (fun z : Ext y2.v => HI.out (z.up y2.b))
  have HBz := Lib.hid (fun z : Ext y2.v => bT HB.out (bT y2.b z.b))
  have F0z : ∀ z : Ext y2.v, z.v.cell? ⟨w.heap.size, 0, none⟩ = some (.slice p D.n c) := fun z => F0 (z.up y2.b)
  have F1z : ∀ z : Ext y2.v, z.v.cell? ⟨w.heap.size, 1, none⟩ = some (.slice q D.m d) := fun z => F1 (z.up y2.b)
  obtain ⟨z0, hz0⟩ := rebase y2.v
  clear hbn hln hbq F0 F1 HI
  have HAT := Lib.hid (fun (z : Ext y2.v) k (hk : k < (nws D).length) => lst_at HNW.out (HLN.out z) hk)
  obtain ⟨q0, c0, hc0, hn0, _⟩ := HAT.out z0 0 hpos
  rw [Nat.add_zero] at hc0
  have C0 : ∀ y : Ext z0.v, y.v.cell? ⟨bq, oq, none⟩ = some (.slice q0 D.m c0) := fun y => (y.b.cell (p := ⟨bq, oq, none⟩) (World.block_lt_of_cell? _ _ hc0)).trans hc0
  have HF0 := Lib.hid (fun y : Ext z0.v => farR_any D p q q0 c d c0 _ y.v HD.out ((HNW.out.nw _ (getD_mem hpos)).2.inH HD.out) (HIz.out (y.up z0.b)) (hn0.bel y.b))
  have FY0 : ∀ y : Ext z0.v, y.v.cell? ⟨w.heap.size, 0, none⟩ = some (.slice p D.n c) := fun y => F0z (y.up z0.b)
  have FY1 : ∀ y : Ext z0.v, y.v.cell? ⟨w.heap.size, 1, none⟩ = some (.slice q D.m d) := fun y => F1z (y.up z0.b)
  obtain ⟨f0, hf0⟩ : ∃ v, farF D (asF ((nws D).getD 0 [])) D.m = v := ⟨_, rfl⟩
  rw [hf0] at HF0 HRES
  obtain ⟨z00, hz00⟩ := rebase z0.v
  rw [hz0, hz00]
  clear hz0 hz00 hc0 hn0 hf0
  go_wp2
  refine quiet_e (by kernel_rfl) (by kernel_rfl) ?_
  repeat (first | go_big_quiet_step ((first | (go_at_call 25; with_reducible exact quiet_x (HF0.out _)))) | quiet_step ((first | (go_at_call 25; with_reducible exact quiet_x (HF0.out _)))))
  refine wpQuiet_nil ?_
  intro w6 hw6
  obtain ⟨y3, rfl⟩ := hw6
  clear C0 FY0 FY1
  obtain ⟨L, hL⟩ : ∃ L, nws D = L := ⟨_, rfl⟩
  rw [hL] at HNW HAT HRES HLN hpos hle hli ⊢
  have HY3 := Lib.hid (bT z0.b y3.b)
  go_wp2
  go_loopw [6, 7] (fun v i wr => ∃ k : Nat, i = .int .i64 (k : Int) ∧ v = .int .i64 (mnF (fun l => farF D (asF l) D.m) f0 (L.take k)) ∧ k ≤ L.length ∧ ∃ z : Ext y2.v, wr = z.v) (fun v i _ => L.length - (intOf i).toNat)
  case atStart => exact ⟨0, rfl, by simp [mnF], Nat.zero_le _, ⟨y3.v, HY3.out⟩, rfl⟩
  case round =>
    obtain ⟨k, rfl, rfl, hk, z, rfl⟩ := hrel
    by_cases hlt : k < L.length
    · have jk : decide ((k : Int) < (L.length : Int)) = true := by simp; omega
      have hkl : (k : Int) < (L.length : Int) := by omega
      have hst : mnF (fun l => farF D (asF l) D.m) f0 (L.take (k + 1)) = min (mnF (fun l => farF D (asF l) D.m) f0 (L.take k)) (farF D (asF (L.getD k [])) D.m) := fold_take _ _ hlt
      have HST := Lib.hid hst
      obtain ⟨qk, ck, hck, hnk, hbk⟩ := HAT.out z k hlt
      have CK : ∀ y : Ext z.v, y.v.cell? ⟨bq, oq + k, none⟩ = some (.slice qk D.m ck) := fun y => (y.b.cell (p := ⟨bq, oq + k, none⟩) hbk).trans hck
      have FZ0 : ∀ y : Ext z.v, y.v.cell? ⟨w.heap.size, 0, none⟩ = some (.slice p D.n c) := fun y => F0z (y.up z.b)
      have FZ1 : ∀ y : Ext z.v, y.v.cell? ⟨w.heap.size, 1, none⟩ = some (.slice q D.m d) := fun y => F1z (y.up z.b)
      have HFK := Lib.hid (fun y : Ext z.v => farR_any D p q qk c d ck _ y.v HD.out ((HNW.out.nw _ (getD_mem hlt)).2.inH HD.out) (HIz.out (y.up z.b)) (hnk.bel y.b))
      obtain ⟨fk, hfk⟩ : ∃ v, farF D (asF (L.getD k [])) D.m = v := ⟨_, rfl⟩
      obtain ⟨mk, hmk⟩ : ∃ v, mnF (fun l => farF D (asF l) D.m) f0 (L.take k) = v := ⟨_, rfl⟩
      rw [hfk] at HFK HST
      rw [hmk] at HST ⊢
      obtain ⟨nx, hnx⟩ : ∃ v, min mk fk = v := ⟨_, rfl⟩
      obtain ⟨t1, t2⟩ := mn_min mk fk
      rw [hnx] at HST t1 t2
      obtain ⟨y00, hy00⟩ := rebase z.v
      rw [hy00]
      clear hy00 hck hnk hbk hst hfk hmk hnx hk
      go_wp2
      refine quiet_e (by kernel_rfl) (by kernel_rfl) ?_
      repeat (first | go_big_quiet_step ((first | (go_at_call 25; with_reducible exact quiet_x (HFK.out _)))) | quiet_step ((first | (go_at_call 25; with_reducible exact quiet_x (HFK.out _)))))
      refine wpQuiet_nil ?_
      intro w6 hw6
      obtain ⟨y4, rfl⟩ := hw6
      go_wp2
      go_roundw
      case rel => exact ⟨k + 1, by go_num, by rw [HST.out], hlt, ⟨y4.v, bT z.b y4.b⟩, rfl⟩
      case measure => first | (simp [intOf]; done) | (simp [intOf]; omega)
    · have hke : k = L.length := by omega
      subst hke
      have jk : decide ((L.length : Int) < (L.length : Int)) = false := by simp
      have HV := Lib.hid (show mnF (fun l => farF D (asF l) D.m) f0 (L.take L.length) = tM D by rw [List.take_length]; exact HRES.out)
      clear hk hlt
      obtain ⟨mk, hmk⟩ : ∃ v, mnF (fun l => farF D (asF l) D.m) f0 (L.take L.length) = v := ⟨_, rfl⟩
      rw [hmk] at HV ⊢
      clear hmk
      go_wp2
      go_ret2
      exact ⟨by rw [← HV.out]; rfl, HBz.out z⟩
set_option maxRecDepth 100000 in
set_option maxHeartbeats 8000000 in
theorem fewestR_ok (D : Ro) (p q : Option Addr) (c d : Nat) (w : World) (hD : OkP D) (hx : exB D = true) (hi : RoIn w w.heap.size D p q) :
    Calls Try.prog 56 #[.agg #[.slice p D.n c, .slice q D.m d]] w fun e w' => e = .returned (.tuple #[.int .i64 (tN D), .int .i64 0]) ∧ Below w.heap.size w w' := by
  obtain ⟨w1, x1, hw1, hb1, hz1, F0, F1, _⟩ := box_ro w p q D.n D.m c d
  have HB := Lib.hid hb1
  have HI : Hid (∀ x : Ext w1, RoIn x.v x.v.heap.size D p q) := fun x => (hi.bel hb1).bel x.b
  clear hb1 hz1 hi
  have HD := Lib.hid hD; have HX := Lib.hid hx
  have HNS := Lib.hid (fun (V : World) hV => news_some D p q c d hD hx V hV)
  have HNW := Lib.hid (nws_nw hD)
  have hpos := nws_pos hD hx
  have hle := HNW.out.le
  have hm6 := hD.m; have hn8 := hD.n
  have i0 : ((0 : Int) != 0) = false := by decide
  have HRES := Lib.hid (nws_few hD hx)
  have hli : (0 : Int) < ((nws D).length : Int) := by omega
  clear hD hx
  go_enter Try.func56, Try.ntmps56
  go_wp2_with fail
  refine (HNS.out _ (HI.out _)).mono ?_
  rintro e w2 ⟨yn, cn, rfl, hbn, hln⟩
  obtain ⟨y2, hy2⟩ : ∃ y : Ext w1, w2 = y.v := ⟨⟨w2, bT x1.b hbn⟩, rfl⟩
  subst hy2
  obtain ⟨bq, oq, rfl, hbq, _⟩ := hln hpos
  have HLN := Lib.hid (fun z : Ext y2.v => hln.bel z.b)
  have HIz := Lib.hid (fun z : Ext y2.v => HI.out (z.up y2.b))
  have HBz := Lib.hid (fun z : Ext y2.v => bT HB.out (bT y2.b z.b))
  have F0z : ∀ z : Ext y2.v, z.v.cell? ⟨w.heap.size, 0, none⟩ = some (.slice p D.n c) := fun z => F0 (z.up y2.b)
  have F1z : ∀ z : Ext y2.v, z.v.cell? ⟨w.heap.size, 1, none⟩ = some (.slice q D.m d) := fun z => F1 (z.up y2.b)
  obtain ⟨z0, hz0⟩ := rebase y2.v
  clear hbn hln hbq F0 F1 HI
  have HAT := Lib.hid (fun (z : Ext y2.v) k (hk : k < (nws D).length) => lst_at HNW.out (HLN.out z) hk)
  rw [hz0]
  clear hz0
  obtain ⟨L, hL⟩ : ∃ L, nws D = L := ⟨_, rfl⟩
  rw [hL] at HNW HAT HRES HLN hpos hle hli ⊢
  go_wp2
  go_loopw [6, 7] (fun v i wr => ∃ k : Nat, i = .int .i64 (k : Int) ∧ v = .int .i64 (mnF (fun l => cntM D (asF l) D.m) D.m (L.take k)) ∧ k ≤ L.length ∧ ∃ z : Ext y2.v, wr = z.v) (fun v i _ => L.length - (intOf i).toNat)
  case atStart => exact ⟨0, rfl, by simp [mnF], Nat.zero_le _, z0, rfl⟩
  case round =>
    obtain ⟨k, rfl, rfl, hk, z, rfl⟩ := hrel
    by_cases hlt : k < L.length
    · have jk : decide ((k : Int) < (L.length : Int)) = true := by simp; omega
      have hkl : (k : Int) < (L.length : Int) := by omega
      have hst : mnF (fun l => cntM D (asF l) D.m) D.m (L.take (k + 1)) = min (mnF (fun l => cntM D (asF l) D.m) D.m (L.take k)) (cntM D (asF (L.getD k [])) D.m) := fold_take _ _ hlt
      have HST := Lib.hid hst
      obtain ⟨qk, ck, hck, hnk, hbk⟩ := HAT.out z k hlt
      have CK : ∀ y : Ext z.v, y.v.cell? ⟨bq, oq + k, none⟩ = some (.slice qk D.m ck) := fun y => (y.b.cell (p := ⟨bq, oq + k, none⟩) hbk).trans hck
      have FZ0 : ∀ y : Ext z.v, y.v.cell? ⟨w.heap.size, 0, none⟩ = some (.slice p D.n c) := fun y => F0z (y.up z.b)
      have FZ1 : ∀ y : Ext z.v, y.v.cell? ⟨w.heap.size, 1, none⟩ = some (.slice q D.m d) := fun y => F1z (y.up z.b)
      have HMK := Lib.hid (fun y : Ext z.v => movedR_any D p q qk c d ck _ y.v HD.out ((HNW.out.nw _ (getD_mem hlt)).2.inH HD.out) (HIz.out (y.up z.b)) (hnk.bel y.b))
      obtain ⟨fk, hfk⟩ : ∃ v, (movedL D (asF (L.getD k [])) D.m).length = v := ⟨_, rfl⟩
      obtain ⟨mk, hmk⟩ : ∃ v, mnF (fun l => cntM D (asF l) D.m) D.m (L.take k) = v := ⟨_, rfl⟩
      unfold cntM at HST
      rw [hfk] at HMK HST
      unfold cntM at hmk
      rw [hmk] at HST
      rw [show mnF (fun l => cntM D (asF l) D.m) D.m (L.take k) = mk from hmk]
      obtain ⟨nx, hnx⟩ : ∃ v, min mk (fk : Int) = v := ⟨_, rfl⟩
      obtain ⟨t1, t2⟩ := mn_min mk (fk : Int)
      rw [hnx] at HST t1 t2
      obtain ⟨y00, hy00⟩ := rebase z.v
      rw [hy00]
      clear hy00 hck hnk hbk hst hfk hmk hnx hk
      go_wp2
      refine wp_region_lastE 9 (by kernel_rfl) rfl (fun y4 => ?_)
      refine wpAnyG_take (i := 0) (v := ?_) (by kernel_rfl) rfl (by kernel_rfl) (by kernel_rfl) (by kernel_rfl) (fun _ _ _ h => h) (Or.inl ⟨by rfl, ?_⟩) ⟨_, rfl⟩ ?_
      rotate_left
      · rintro wS ⟨yS, rfl⟩
        go_simp
        try (with_reducible rfl)
      try simp only [Act.put, List.setIfInBounds_toArray, List.set_cons_zero, List.set_cons_succ]
      refine wpAnyG_take (i := 1) (v := ?_) (by kernel_rfl) rfl (by kernel_rfl) (by kernel_rfl) (by kernel_rfl) (fun _ _ _ h => h) (Or.inl ⟨by rfl, ?_⟩) ⟨_, rfl⟩ ?_
      rotate_left
      · rintro wS ⟨yS, rfl⟩
        go_simp
        try (with_reducible rfl)
      try simp only [Act.put, List.setIfInBounds_toArray, List.set_cons_zero, List.set_cons_succ]
      refine wpAnyG_take (i := 2) (v := ?_) (by kernel_rfl) rfl (by kernel_rfl) (by kernel_rfl) (by kernel_rfl) (fun _ _ _ h => h) (Or.inl ⟨by rfl, ?_⟩) ⟨_, rfl⟩ ?_
      rotate_left
      · rintro wS ⟨yS, rfl⟩
        go_simp
        try (with_reducible rfl)
      try simp only [Act.put, List.setIfInBounds_toArray, List.set_cons_zero, List.set_cons_succ]
      refine wpAnyG_take (i := 3) (v := ?_) (by kernel_rfl) rfl (by kernel_rfl) (by kernel_rfl) (by kernel_rfl) (fun _ _ _ h => h) (Or.inl ⟨by rfl, ?_⟩) ⟨_, rfl⟩ ?_
      rotate_left
      · rintro wS ⟨yS, rfl⟩
        go_simp
        try (with_reducible rfl)
      try simp only [Act.put, List.setIfInBounds_toArray, List.set_cons_zero, List.set_cons_succ]
      refine wpAnyG_take (i := 4) (v := ?_) (by kernel_rfl) rfl (by kernel_rfl) (by kernel_rfl) (by kernel_rfl) (fun _ _ _ h => h) (Or.inl ⟨by rfl, ?_⟩) ⟨_, rfl⟩ ?_
      rotate_left
      · rintro wS ⟨yS, rfl⟩
        go_simp
        try (with_reducible rfl)
      try simp only [Act.put, List.setIfInBounds_toArray, List.set_cons_zero, List.set_cons_succ]
      refine wpAnyG_take (i := 5) (v := ?_) (by kernel_rfl) rfl (by kernel_rfl) (by kernel_rfl) (by kernel_rfl) (fun _ _ _ h => h) (Or.inl ⟨by rfl, ?_⟩) ⟨_, rfl⟩ ?_
      rotate_left
      · rintro wS ⟨yS, rfl⟩
        go_simp
        try (with_reducible rfl)
      try simp only [Act.put, List.setIfInBounds_toArray, List.set_cons_zero, List.set_cons_succ]
      refine wpAnyG_one (i := 6) (by kernel_rfl) (by decide) (wpOp_plain rfl rfl ?_)
      go_simp
      go_at_call 26
      refine (HMK.out y4).mono ?_
      rintro e w5 ⟨ym, cm, rfl, hb5, _⟩
      obtain ⟨y5, hy5⟩ : ∃ y : Ext z.v, w5 = y.v := ⟨⟨w5, bT y4.b hb5⟩, rfl⟩
      subst hy5
      clear hb5
      refine ⟨⟨_, rfl⟩, ?_⟩
      try simp only [Act.put, List.setIfInBounds_toArray, List.set_cons_zero, List.set_cons_succ]
      refine wpAnyG_take (i := 7) (v := ?_) (by kernel_rfl) rfl (by kernel_rfl) (by kernel_rfl) (by kernel_rfl) (fun _ _ _ h => h) (Or.inl ⟨by rfl, ?_⟩) ⟨_, rfl⟩ ?_
      rotate_left
      · rintro wS ⟨yS, rfl⟩
        go_simp
        try (with_reducible rfl)
      try simp only [Act.put, List.setIfInBounds_toArray, List.set_cons_zero, List.set_cons_succ]
      refine wpAnyG_take (i := 8) (v := ?_) (by kernel_rfl) rfl (by kernel_rfl) (by kernel_rfl) (by kernel_rfl) (fun _ _ _ h => h) (Or.inl ⟨by rfl, ?_⟩) ⟨_, rfl⟩ ?_
      rotate_left
      · rintro wS ⟨yS, rfl⟩
        go_simp
        try (with_reducible rfl)
      try simp only [Act.put, List.setIfInBounds_toArray, List.set_cons_zero, List.set_cons_succ]
      refine wpAnyG_done (by kernel_rfl) (by kernel_rfl) (wpOp_plain rfl rfl ?_)
      go_simp
      go_wp2
      go_roundw
      case rel => exact ⟨k + 1, by go_num, by rw [show mnF (fun l => cntM D (asF l) D.m) D.m (L.take (k + 1)) = nx from HST.out], hlt, ⟨y5.v, bT z.b y5.b⟩, rfl⟩
      case measure => first | (simp [intOf]; done) | (simp [intOf]; omega)
    · have hke : k = L.length := by omega
      subst hke
      have jk : decide ((L.length : Int) < (L.length : Int)) = false := by simp
      have HV := Lib.hid (show mnF (fun l => cntM D (asF l) D.m) D.m (L.take L.length) = tN D by rw [List.take_length]; exact HRES.out)
      clear hk hlt
      obtain ⟨mk, hmk⟩ : ∃ v, mnF (fun l => cntM D (asF l) D.m) D.m (L.take L.length) = v := ⟨_, rfl⟩
      rw [hmk] at HV ⊢
      clear hmk
      go_wp2
      go_ret2
      exact ⟨by rw [← HV.out]; rfl, HBz.out z⟩
theorem known_any (so all : Int) (w : World) (h0 : 0 ≤ so ∧ so ≤ all) : Calls Try.prog 87 #[.int .i64 so, .int .i64 all] w fun e w' => e = .returned (.int .i64 (knV so all)) ∧ w = w' := by
  by_cases h1 : so = 0
  · have hv : knV so all = 2 := by unfold knV; rw [if_pos h1]
    have j1 : (so == 0) = true := by simp [h1]
    rw [hv]
    clear hv h0
    subst h1
    go_enter Try.func87, Try.ntmps87
    go_wp2
    go_ret
    exact ⟨rfl, rfl⟩
  · have j1 : (so == 0) = false := by simp [h1]
    by_cases h2 : so = all
    · have hv : knV so all = 1 := by unfold knV; rw [if_neg h1, if_pos h2]
      rw [hv]
      clear hv h0
      subst h2
      have j2 : (so == so) = true := by simp
      go_enter Try.func87, Try.ntmps87
      go_wp2
      go_ret
      exact ⟨rfl, rfl⟩
    · have hv : knV so all = 3 := by unfold knV; rw [if_neg h1, if_neg h2]
      rw [hv]
      have j2 : (so == all) = false := by simp [h2]
      clear hv h0
      go_enter Try.func87, Try.ntmps87
      go_wp2
      go_ret
      exact ⟨rfl, rfl⟩
theorem nw_le {D : Ro} {L : List (List Int)} {bl : List Int} (hN : NwL D L) (h : flB D L = some bl) : bl.length = D.m ∧ NR D (asF bl) := hN.nw _ (flB_spec h).1
set_option maxRecDepth 100000 in
set_option maxHeartbeats 8000000 in
theorem boundRR_er (D : Ro) (p q : Option Addr) (c d : Nat) (st : Int) (er : Int) (w : World) (hm : D.m ≤ maxLen) (hi : RoIn w w.heap.size D p q) (hne : NewsEr D p q c d (isS D st) er) :
    Calls Try.prog 52 #[.agg #[.slice p D.n c, .slice q D.m d], .int .i64 st] w fun e w' => e = .returned (.tuple #[.int .i64 0, .int .i64 er]) ∧ Below w.heap.size w w' := by
  obtain ⟨w1, x1, hw1, hb1, hz1, F0, F1, _⟩ := box_ro w p q D.n D.m c d
  have HB := Lib.hid hb1
  have HI : Hid (∀ x : Ext w1, RoIn x.v x.v.heap.size D p q) := fun x => (hi.bel hb1).bel x.b
  clear hb1 hz1 hi
  have HNE := Lib.hid (fun y : Ext w1 => hne.2 y.v (HI.out y))
  have HS := Lib.hid (fun y : Ext w1 => isStreetR_any D p q c d st y.v hm)
  have j0 : (er != 0) = true := by simp [hne.1]
  obtain ⟨b, hb⟩ : ∃ b, isS D st = b := ⟨_, rfl⟩
  rw [hb] at HNE HS
  clear hne hb
  go_enter Try.func52, Try.ntmps52
  go_wp2
  refine quiet_e (by kernel_rfl) (by kernel_rfl) ?_
  repeat (first | go_big_quiet_step ((first | (go_at_call 29; with_reducible exact quiet_x (HS.out _)) | (go_at_call 85; with_reducible exact quiet_x (HNE.out _)))) | quiet_step ((first | (go_at_call 29; with_reducible exact quiet_x (HS.out _)) | (go_at_call 85; with_reducible exact quiet_x (HNE.out _)))))
  refine wpQuiet_nil ?_
  intro w6 hw6
  obtain ⟨y3, rfl⟩ := hw6
  go_wp2
  go_ret2
  exact ⟨rfl, bT HB.out y3.b⟩
end Go.Proofs.Ytegkgfiaegpihaa
