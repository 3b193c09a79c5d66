/- Rosters of hours: Fair of the specification. -/
import Derived.Test.YtegkgfiaegpihaaF19

set_option linter.unusedSimpArgs false

set_option linter.unusedVariables false

namespace Go.Proofs.Ytegkgfiaegpihaa

open Go.RowKit

def nearM (D : Ro) (F : Int) : Nat → Nat → Bool := fun s h => decide (mv D s h ≤ F)
/-- those new rosters in which nobody is moved farther -/
theorem near_eq {D : Ro} (hD : OkP D) {F : Int} (hF : 0 ≤ F) : (nws D).filter (fun l => decide (farF D (asF l) D.m ≤ F)) = nwM D (nearM D F) := by
  unfold nws nwM
  rw [List.filter_filter]
  refine List.filter_congr fun l hl => ?_
  rw [okM_true]
  unfold okM
  cases hb : isNw D l.length (asF l) with
  | false => simp
  | true =>
    have hn := ((isNw_iff hD).1 hb).2
    rw [Bool.true_and, Bool.and_true, Bool.eq_iff_iff, decide_eq_true_eq, ← near_iff hF, allN_iff]
    constructor
    · intro h k hk
      simp only [nearM, decide_eq_true_eq]
      rw [hn.cast hD hk]; exact h k hk
    · intro h k hk
      have := h k hk
      simp only [nearM, decide_eq_true_eq] at this
      rw [hn.cast hD hk] at this; exact this
theorem near_best {D : Ro} (hD : OkP D) (hx : exB D = true) : 0 < ((nws D).filter (fun l => decide (farF D (asF l) D.m ≤ tM D))).length ∧ ∃ l, flB D ((nws D).filter (fun l => decide (farF D (asF l) D.m ≤ tM D))) = some l ∧ l.length = D.m ∧ ∀ k, k < D.m → asF l k = faF D k := by
  have h0 : 0 ≤ tM D := (t_bd hD).2.1.1
  rw [near_eq hD h0]
  have hf := fa_no hD hx
  rcases nwM_best hD (nearM D (tM D)) with ⟨h1, _⟩ | ⟨_, l, h2, h3, h4⟩
  · rw [show prO (prC D) (nearM D (tM D)) = pF D (tM D) from rfl, hf] at h1; cases h1
  · refine ⟨?_, l, h2, h3, h4⟩
    rcases Nat.eq_zero_or_pos (nwM D (nearM D (tM D))).length with h | h
    · rw [List.eq_nil_of_length_eq_zero h] at h2; simp [flB] at h2
    · exact h
theorem NwL.filt {D : Ro} {L : List (List Int)} (h : NwL D L) (f : List Int → Bool) : NwL D (L.filter f) :=
  ⟨Nat.le_trans (List.length_filter_le _ _) h.le, fun l hl => h.nw l (List.mem_filter.1 hl).1⟩
set_option maxRecDepth 100000 in
set_option maxHeartbeats 16000000 in
theorem fairR_ok (D : Ro) (p q : Option Addr) (c d : Nat) (w : World) (hD : OkP D) (hx : exB D = true) (hi : RoIn w w.heap.size D p q) :
    Calls Try.prog 57 #[.agg #[.slice p D.n c, .slice q D.m d]] w fun e w' => ∃ y c', e = .returned (.tuple #[.slice y D.m c', .int .i64 0]) ∧ Below w.heap.size w w' ∧ NumIn w' w'.heap.size D.m (faF D) y := by
  obtain ⟨i5, hi5, hz5, hz5', hz5''⟩ := info_parts infoL
  have I5 := Lib.hid hi5; have Z5 := Lib.hid hz5; have Z5' := Lib.hid hz5'; have Z5'' := Lib.hid hz5''; clear hi5 hz5 hz5' hz5''
  obtain ⟨w1, x1, hw1, hb1, hz1, F0, F1, _⟩ := box_ro w p q D.n D.m c d
  have HB := Lib.hid hb1
  have HI : Hid (∀ x : Ext w1, RoIn x.v x.v.heap.size D p q) := fun x => (hi.bel hb1).bel x.b
  clear hb1 hz1 hi
  have HD := Lib.hid hD; have HX := Lib.hid hx
  have HNS := Lib.hid (fun (V : World) hV => news_some D p q c d hD hx V hV)
  have HNW := Lib.hid (nws_nw hD)
  have hpos := nws_pos hD hx
  have hle := HNW.out.le
  have hm6 := hD.m; have hn8 := hD.n
  have i0 : ((0 : Int) != 0) = false := by decide
  obtain ⟨hnp, bl, hb1, hb2, hb3⟩ := near_best hD hx
  have HBL := Lib.hid hb1; have HB3 := Lib.hid hb3; have HNP := Lib.hid hnp
  have hli : (0 : Int) < ((nws D).length : Int) := by omega
  have HFR := Lib.hid (fun (V : World) hV => farRR_ok D p q c d V hD hx hV)
  clear hD hx hb1 hb2 hb3 hnp
  go_enter Try.func57, Try.ntmps57
  go_wp2_with fail
  refine (HNS.out _ (HI.out _)).mono ?_
  rintro e w2 ⟨yn, cn, rfl, hbn, hln⟩
  obtain ⟨y2, hy2⟩ : ∃ y : Ext w1, w2 = y.v := ⟨⟨w2, bT x1.b hbn⟩, rfl⟩
  subst hy2
  obtain ⟨bq, oq, rfl, hbq, _⟩ := hln hpos
  have HLN := Lib.hid (fun z : Ext y2.v => hln.bel z.b)
  have HIz := Lib.hid (fun z : Ext y2.v => HI.out (z.up y2.b))
  have HBz := Lib.hid (fun z : Ext y2.v => bT HB.out (bT y2.b z.b))
  have F0z : ∀ z : Ext y2.v, z.v.cell? ⟨w.heap.size, 0, none⟩ = some (.slice p D.n c) := fun z => F0 (z.up y2.b)
  have F1z : ∀ z : Ext y2.v, z.v.cell? ⟨w.heap.size, 1, none⟩ = some (.slice q D.m d) := fun z => F1 (z.up y2.b)
  obtain ⟨z0, hz0⟩ := rebase y2.v
  clear hbn hln hbq F0 F1 HI
  have HAT := Lib.hid (fun (z : Ext y2.v) k (hk : k < (nws D).length) => lst_at HNW.out (HLN.out z) hk)
  rw [hz0]
  clear hz0
  obtain ⟨L, hL⟩ : ∃ L, nws D = L := ⟨_, rfl⟩
  obtain ⟨F, hF⟩ : ∃ F, tM D = F := ⟨_, rfl⟩
  rw [hL] at HNW HAT HLN hpos hle hli HBL HNP ⊢
  rw [hF] at HFR HBL HNP
  clear hL hF
  go_wp2_with fail
  refine (HFR.out _ (HIz.out z0)).mono ?_
  rintro e w5 ⟨rfl, hb5⟩
  obtain ⟨z1, hz1⟩ : ∃ y : Ext y2.v, w5 = y.v := ⟨⟨w5, bT z0.b hb5⟩, rfl⟩
  subst hz1
  clear hb5 HNS
  have HIb := Lib.hid (fun z : Ext z1.v => (show RoIn z.v z.v.heap.size D p q from HIz.out (z.up z1.b)))
  have HBb := Lib.hid (fun z : Ext z1.v => (show Below w.heap.size w z.v from HBz.out (z.up z1.b)))
  have F0b : ∀ z : Ext z1.v, z.v.cell? ⟨w.heap.size, 0, none⟩ = some (.slice p D.n c) := fun z => F0z (z.up z1.b)
  have F1b : ∀ z : Ext z1.v, z.v.cell? ⟨w.heap.size, 1, none⟩ = some (.slice q D.m d) := fun z => F1z (z.up z1.b)
  have HLb := Lib.hid (fun z : Ext z1.v => (show LstIn z.v 0 L (some ⟨bq, oq, none⟩) from HLN.out (z.up z1.b)))
  have HZW := Lib.hid (Below.refl z1.v.heap.size z1.v)
  have E0 := F0b ⟨z1.v, Below.refl _ _⟩; have E1 := F1b ⟨z1.v, Below.refl _ _⟩
  have e0 : z1.v.cell? ⟨w.heap.size, 0, none⟩ = some (.slice p D.n c) := E0
  have e1 : z1.v.cell? ⟨w.heap.size, 1, none⟩ = some (.slice q D.m d) := E1
  clear HAT HIz HBz F0z F1z HLN E0 E1
  go_wp2
  clear e0 e1
  go_loopw [8, 9] (fun v i wr => ∃ k : Nat, i = .int .i64 (k : Int) ∧ k ≤ L.length ∧ Below z1.v.heap.size z1.v wr ∧ OutS z1.v.heap.size 0 ((L.take k).filter (fun l => decide (farF D (asF l) D.m ≤ F))) v wr) (fun v i _ => L.length - (intOf i).toNat)
  case atStart => exact ⟨0, rfl, Nat.zero_le _, HZW.out, by rw [List.take_zero]; exact OutS.nil _ _ _⟩
  case round =>
    obtain ⟨k, rfl, hk, hrb, hout⟩ := hrel
    have HRB := Lib.hid hrb; have HOUT := Lib.hid hout
    clear hrb hout
    by_cases hlt : k < L.length
    · have jk : decide ((k : Int) < (L.length : Int)) = true := by simp; omega
      have hkl : (k : Int) < (L.length : Int) := by omega
      have HFT := Lib.hid (filt_take (f := fun l => decide (farF D (asF l) D.m ≤ F)) hlt)
      have HFL := Lib.hid (show ((L.take k).filter (fun l => decide (farF D (asF l) D.m ≤ F))).length ≤ 262144 from Nat.le_trans (List.length_filter_le _ _) (by rw [List.length_take]; omega))
      obtain ⟨y00, hy00⟩ := rebase wr
      obtain ⟨bb, ob, eb, hbb, hcb⟩ := HLb.out ⟨wr, HRB.out⟩ hpos
      cases eb
      obtain ⟨u, hu, hur⟩ := hcb k hlt
      have hl := (HNW.out.nw _ (getD_mem hlt)).1
      have hnr := (HNW.out.nw _ (getD_mem hlt)).2
      have hub := HLb.out ⟨z1.v, Below.refl _ _⟩ hpos
      obtain ⟨bb2, ob2, eb2, hbb2, hcb2⟩ := hub
      cases eb2
      obtain ⟨u2, hu2, hur2⟩ := hcb2 k hlt
      have huu : u2 = u := by
        have h1 : wr.cell? ⟨bq, oq + k, none⟩ = some u2 := (HRB.out.cell (p := ⟨bq, oq + k, none⟩) hbb2).trans hu2
        have h2 : wr.cell? ⟨bq, oq + k, none⟩ = some u := hu
        rw [h1] at h2; cases h2; rfl
      subst huu
      obtain ⟨l, hll⟩ : ∃ l, L.getD k [] = l := ⟨_, rfl⟩
      rw [hll] at HFT hl hnr hur2
      obtain ⟨qk, ck, rfl⟩ := hur2.len
      rw [hl] at hu2 hur2
      have HUR := Lib.hid hur2
      have HLEN := Lib.hid hl
      have C0 : ∀ z : Ext wr, z.v.cell? ⟨bq, oq + k, none⟩ = some (.slice qk D.m ck) := fun z => ((bT HRB.out z.b).cell (p := ⟨bq, oq + k, none⟩) hbb2).trans hu2
      have HNU : Hid (∀ z : Ext z1.v, NumIn z.v z.v.heap.size D.m (asF l) qk) := fun z => by
        obtain ⟨q', c', e', h'⟩ := (HUR.out.bel z.b).num
        rw [hl] at e' h'
        cases e'
        exact h'
      have HUB : Hid (∀ g, (Value.slice qk D.m ck).ownBlock = some g → 0 < D.m → g < z1.v.heap.size) := fun g hg h0 => by
        obtain ⟨q', c', e', h'⟩ := HUR.out
        rw [hl] at e' h'
        cases e'
        obtain ⟨g2, e2, _, b2, _⟩ := h' h0
        have : g2 = g := by rw [e2] at hg; simpa [Value.ownBlock] using hg
        have b3 : g2 < z1.v.heap.size := b2
        omega
      have FR0 : ∀ z : Ext wr, z.v.cell? ⟨w.heap.size, 0, none⟩ = some (.slice p D.n c) := fun z => F0b (z.up HRB.out)
      have FR1 : ∀ z : Ext wr, z.v.cell? ⟨w.heap.size, 1, none⟩ = some (.slice q D.m d) := fun z => F1b (z.up HRB.out)
      have HFK := Lib.hid (fun y : Ext wr => farR_any D p q qk c d ck (asF l) y.v HD.out (hnr.inH HD.out) (HIb.out (y.up HRB.out)) (HNU.out (y.up HRB.out)))
      obtain ⟨fk, hfk⟩ : ∃ v, farF D (asF l) D.m = v := ⟨_, rfl⟩
      rw [hfk] at HFK HFT
      have hle2 : L.length ≤ 262144 := hle
      clear hfk hll hl hnr hbb hcb hu hur hbb2 hcb2 hu2 hur2 hk
      by_cases hc : fk ≤ F
      · have j1 : decide (fk ≤ F) = true := by simp [hc]
        rw [j1] at HFT
        rw [hy00]
        clear hy00
        go_wp2
        refine quiet_e (by kernel_rfl) (by kernel_rfl) ?_
        repeat (first | go_big_quiet_step ((first | (go_at_call 25; with_reducible exact quiet_x (HFK.out _)))) | quiet_step ((first | (go_at_call 25; with_reducible exact quiet_x (HFK.out _)))))
        refine wpQuiet_nil ?_
        intro w6 hw6
        obtain ⟨y3, rfl⟩ := hw6
        obtain ⟨xs, hxo, hxx⟩ := (HOUT.out.bel y3.b).o
        have HXO := Lib.hid hxo; have HXX := Lib.hid hxx
        clear hxo hxx
        go_wp2_with (at_builtin; go_loud (refine wpList_append_one rfl _ _ 95 rfl z1.v.heap.size 22 i5 _ 1 24 Try.underlying95 I5.out Z5.out Z5'.out Z5''.out rfl (by decide) _ _ _ rfl (HXO.out.alloc _) ⟨y3.v.heap.size, 0, none⟩ 1 1 [.slice qk D.m ck] rfl rfl (lit_cellsQ _ _ _ _ (by simp)) ?h1c (by omega) ?h2c ?h3c ?h4c ?_))
        case h1c => simp [Value.oneCell']
        case h2c => have := HFL.out; unfold maxLen; omega
        case h3c => have := HFL.out; omega
        case h4c => have := (bT HRB.out y3.b).size; first | omega | (simp; omega)
        intro v' w6 hown hgrow hnew
        have hone := OutS.one (l := l) HXX.out HXO.out (bA (Below.refl _ _) _) ((HUR.out.bel (bT HRB.out y3.b))) (fun h0 g hg e => by
          have h1 := HUB.out g hg (by have := HLEN.out; omega)
          have h2 := (HOUT.out.own g e.symm).1
          omega) hown hgrow (fun g hg => by have := hnew g hg; simpa using this)
        have hbz := below_grown (bA (bT HRB.out y3.b) _) (HXO.out.alloc _) (Nat.le_refl _) hgrow
        have HONE := Lib.hid hone; have HBZ6 := Lib.hid hbz
        clear hown hgrow hnew hone hbz
        go_wp2
        go_roundw
        case rel => exact ⟨k + 1, by go_num, hlt, HBZ6.out, by rw [HFT.out]; exact HONE.out⟩
        case measure => first | (simp [intOf]; done) | (simp [intOf]; omega)
      · have j1 : decide (fk ≤ F) = false := by simp; omega
        rw [j1] at HFT
        rw [hy00]
        clear hy00
        go_wp2
        refine quiet_e (by kernel_rfl) (by kernel_rfl) ?_
        repeat (first | go_big_quiet_step ((first | (go_at_call 25; with_reducible exact quiet_x (HFK.out _)))) | quiet_step ((first | (go_at_call 25; with_reducible exact quiet_x (HFK.out _)))))
        refine wpQuiet_nil ?_
        intro w6 hw6
        obtain ⟨y3, rfl⟩ := hw6
        go_wp2
        go_roundw
        case rel => exact ⟨k + 1, by go_num, hlt, bT HRB.out y3.b, by rw [HFT.out]; simp only [Bool.false_eq_true, if_false, List.append_nil]; exact HOUT.out.bel y3.b⟩
        case measure => first | (simp [intOf]; done) | (simp [intOf]; omega)
    · have hke : k = L.length := by omega
      subst hke
      have jk : decide ((L.length : Int) < (L.length : Int)) = false := by simp
      rw [List.take_length] at HOUT
      obtain ⟨pq, pc, rfl, hpl⟩ := HOUT.out.lst
      obtain ⟨M, hM⟩ : ∃ M, L.filter (fun l => decide (farF D (asF l) D.m ≤ F)) = M := ⟨_, rfl⟩
      have HMW := Lib.hid (HNW.out.filt (fun l => decide (farF D (asF l) D.m ≤ F)))
      rw [hM] at hpl HMW HBL HNP ⊢
      have HPL := Lib.hid hpl
      clear hpl hk hlt hM
      obtain ⟨y00, hy00⟩ := rebase wr
      have F0r := F0b ⟨wr, HRB.out⟩; have F1r := F1b ⟨wr, HRB.out⟩
      have k0 : y00.v.cell? ⟨w.heap.size, 0, none⟩ = some (.slice p D.n c) := by rw [← hy00]; exact F0r
      have k1 : y00.v.cell? ⟨w.heap.size, 1, none⟩ = some (.slice q D.m d) := by rw [← hy00]; exact F1r
      have HPY := Lib.hid (show LstIn y00.v 0 M pq by rw [← hy00]; exact HPL.out)
      rw [hy00]
      clear hy00 F0r F1r
      go_wp2_with fail
      refine (leastR_any D M p q pq c d pc y00.v HD.out HMW.out HNP.out (HIb.out (y00.up HRB.out)) HPY.out).mono ?_
      rintro e w6 ⟨bl2, yb, cb, hfb, rfl, hb6, hnb⟩
      have e1 : bl2 = bl := by rw [HBL.out] at hfb; cases hfb; rfl
      subst e1
      have HNB := Lib.hid (hnb.cong (g := faF D) (fun k hk => HB3.out k hk))
      have HBF := Lib.hid (show Below w.heap.size w w6 from HBb.out ⟨w6, bT HRB.out (bT y00.b hb6)⟩)
      clear hfb hb6 hnb
      go_wp2
      go_ret2
      first | exact ⟨_, _, rfl, HBF.out, HNB.out⟩ | exact ⟨_, ⟨_, rfl⟩, HBF.out, HNB.out⟩
end Go.Proofs.Ytegkgfiaegpihaa
