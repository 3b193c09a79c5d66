/- Rosters of hours: the specification's lists of hours, one hour after the other. -/
import Derived.Test.YtegkgfiaegpihaaF15

set_option linter.unusedSimpArgs false

set_option linter.unusedVariables false

namespace Go.Proofs.Ytegkgfiaegpihaa

open Go.RowKit

theorem asF_snoc_len {fs : List Int} {x : Int} : (fs ++ [x]).length = fs.length + 1 := by simp
theorem intsV_snoc {fs : List Int} {x : Int} : intsV (fs ++ [x]) = intsV fs ++ [.int .i64 x] := by simp [intsV]
theorem own_b {w : World} {base b : Nat} {e : TypeId} {size : Nat} {v : Value} {n : Nat} {xs : List Value} (h : w.ownsRow base e size v n xs) (hb : b ≤ base) : w.ownsRow b e size v n xs := own_base h hb
set_option maxRecDepth 100000 in
set_option maxHeartbeats 16000000 in
theorem lists_more (D : Ro) (p q : Option Addr) (c d j : Nat) (hD : OkP D) (hih : ListsOk D p q c d j) : ListsOk D p q c d (j + 1) := by
  intro s fs lp lc lo w hfs hs hlo hI hf
  obtain ⟨i3, hi3, hz3, hz3', hz3''⟩ := info_parts infoI
  have I3 := Lib.hid hi3; have Z3 := Lib.hid hz3; have Z3' := Lib.hid hz3'; have Z3'' := Lib.hid hz3''; clear hi3 hz3 hz3' hz3''
  obtain ⟨i5, hi5, hz5, hz5', hz5''⟩ := info_parts infoL
  have I5 := Lib.hid hi5; have Z5 := Lib.hid hz5; have Z5' := Lib.hid hz5'; have Z5'' := Lib.hid hz5''; clear hi5 hz5 hz5' hz5''
  have hst := hD.st s (by omega)
  obtain ⟨wa, xa, hw1, hba, hza, A0, A1, _⟩ := box_ro w p q D.n D.m c d
  obtain ⟨w1, x1, hw2, hb2, hz2, S0, S1, S2, S3, _⟩ := box_st xa.v (D.hs s) (D.fr s) (D.to s) (D.co s)
  have hbx : Below wa.heap.size wa w1 := bT xa.b hb2
  have HB := Lib.hid (bT hba hbx)
  have F0 : ∀ z : Ext w1, z.v.cell? ⟨w.heap.size, 0, none⟩ = some (.slice p D.n c) := fun z => A0 (z.up hbx)
  have F1 : ∀ z : Ext w1, z.v.cell? ⟨w.heap.size, 1, none⟩ = some (.slice q D.m d) := fun z => A1 (z.up hbx)
  have F1a := A1 xa
  have HI : Hid (∀ x : Ext w1, RoIn x.v x.v.heap.size D p q) := fun x => (hI.bel HB.out).bel x.b
  have HIa := hI.bel (bT hba xa.b)
  have HF := Lib.hid (fun x : Ext w1 => (hf.bel HB.out).bel x.b)
  have HD := Lib.hid hD; have HIH := Lib.hid hih
  have HLO1 := Lib.hid (Nat.le_trans hlo HB.out.size)
  have hm6 := hD.m
  obtain ⟨b, o, rfl, _, _⟩ := HIa.st (by omega)
  have c0 := HIa.c0 (k := s) (by omega); have c1 := HIa.c1 (k := s) (by omega); have c2 := HIa.c2 (k := s) (by omega); have c3 := HIa.c3 (k := s) (by omega)
  obtain ⟨hfr, hto, hft⟩ := And.intro hst.fr (And.intro hst.to hst.ft)
  have hn8 := hD.n
  have j0 : ((s : Int) == (D.m : Int)) = false := by simp; omega
  have hsm : (s : Int) < (D.m : Int) := by omega
  clear hba hza hb2 hz2 hbx A0 A1 hI HIa hf hih hD hst
  go_enter Try.func106, Try.ntmps106
  go_wp2
  clear c0 c1 c2 c3 F1a hw1 hw2
  go_loopw [5, 7] (fun v h wr => ∃ k : Nat, h = .int .i64 (D.fr s + k) ∧ k ≤ wid D s ∧ Below w1.heap.size w1 wr ∧ OutS w1.heap.size lo (lstK D j s fs k) v wr) (fun v h _ => (D.to s + 1 - intOf h).toNat)
  case atStart => exact ⟨0, by simp, Nat.zero_le _, x1.b, OutS.nil _ _ _⟩
  case round =>
    obtain ⟨k, rfl, hk, hrb, hout⟩ := hrel
    have HRB := Lib.hid hrb; have HOUT := Lib.hid hout
    clear hrb hout
    have T2 : ∀ y : Ext wr, y.v.cell? ⟨xa.v.heap.size, 2, none⟩ = some (.int .i64 (D.to s)) := fun y => S2 (y.up HRB.out)
    have FR0 : ∀ y : Ext wr, y.v.cell? ⟨w.heap.size, 0, none⟩ = some (.slice p D.n c) := fun y => F0 (y.up HRB.out)
    have FR1 : ∀ y : Ext wr, y.v.cell? ⟨w.heap.size, 1, none⟩ = some (.slice (some ⟨b, o, none⟩) D.m d) := fun y => F1 (y.up HRB.out)
    have HFS := Lib.hid (fun y : Ext wr => HF.out (y.up HRB.out))
    have HLO := Lib.hid (Nat.le_trans HLO1.out HRB.out.size)
    have hwd : (wid D s : Int) = D.to s - D.fr s + 1 := by unfold wid; omega
    by_cases hlt : k < wid D s
    · have HKS := Lib.hid (show lstK D j s fs k ++ lsts D j (s + 1) (fs ++ [D.fr s + (k : Int)]) = lstK D j s fs (k + 1) from lstK_succ.symm)
      have HLE := Lib.hid (show (lstK D j s fs k).length + (lsts D j (s + 1) (fs ++ [D.fr s + (k : Int)])).length ≤ 262144 by
        have := lstK_le HD.out (j := j) (s := s) (k := k + 1) (fs := fs) (by omega) hlt
        rw [lstK_succ, List.length_append] at this
        exact this)
      obtain ⟨x, hx⟩ : ∃ x, D.fr s + (k : Int) = x := ⟨_, rfl⟩
      rw [hx] at HKS HLE ⊢
      have HX1 := Lib.hid (show D.fr s + ((k + 1 : Nat) : Int) = x + 1 by omega)
      have jk : decide (x ≤ D.to s) = true := by simp; omega
      have nk : x ≤ D.to s := by omega
      have ewx : IntKind.i64.wrap (x + 1) = x + 1 := IntWalk.i64_in _ (by omega)
      clear hx hwd hk
      obtain ⟨y00, hy00⟩ := rebase wr
      rw [hy00]
      go_wp2
      refine wp_region_last (fun w' => ∃ y : Ext w1, w' = y.v) 10 (by kernel_rfl) rfl ⟨⟨y00.v.drew, bd (bT HRB.out y00.b)⟩, rfl⟩ (fun _ => ?_)
      obtain ⟨y0, hy0⟩ : ∃ y : Ext wr, y00.v.drew = y.v := ⟨⟨_, bd y00.b⟩, rfl⟩
      rw [hy0]
      clear hy0
      refine wpAnyG_take (i := 0) (v := ?_) (by kernel_rfl) rfl (by kernel_rfl) (by kernel_rfl) (by kernel_rfl) (fun _ _ _ h => h) (Or.inl ⟨by rfl, ?_⟩) ⟨y0.up HRB.out, rfl⟩ ?_
      rotate_left
      · rintro wS ⟨yS, rfl⟩
        go_simp
        try (with_reducible rfl)
      try simp only [Act.put, List.setIfInBounds_toArray, List.set_cons_zero, List.set_cons_succ]
      refine wpAnyG_take (i := 1) (v := ?_) (by kernel_rfl) rfl (by kernel_rfl) (by kernel_rfl) (by kernel_rfl) (fun _ _ _ h => h) (Or.inl ⟨by rfl, ?_⟩) ⟨y0.up HRB.out, rfl⟩ ?_
      rotate_left
      · rintro wS ⟨yS, rfl⟩
        go_simp
        try (with_reducible rfl)
      try simp only [Act.put, List.setIfInBounds_toArray, List.set_cons_zero, List.set_cons_succ]
      refine wpAnyG_take (i := 3) (v := ?_) (by kernel_rfl) rfl (by kernel_rfl) (by kernel_rfl) (by kernel_rfl) (fun _ _ _ h => h) (Or.inl ⟨by rfl, ?_⟩) ⟨y0.up HRB.out, rfl⟩ ?_
      rotate_left
      · rintro wS ⟨yS, rfl⟩
        go_simp
        try (with_reducible rfl)
      try simp only [Act.put, List.setIfInBounds_toArray, List.set_cons_zero, List.set_cons_succ]
      refine wpAnyG_take (i := 5) (v := ?_) (by kernel_rfl) rfl (by kernel_rfl) (by kernel_rfl) (by kernel_rfl) (fun _ _ _ h => h) (Or.inl ⟨by rfl, ?_⟩) ⟨y0.up HRB.out, rfl⟩ ?_
      rotate_left
      · rintro wS ⟨yS, rfl⟩
        go_simp
        try (with_reducible rfl)
      try simp only [Act.put, List.setIfInBounds_toArray, List.set_cons_zero, List.set_cons_succ]
      refine wpAnyG_two (i := 2) (j := 6) (by kernel_rfl) (by decide) (by decide) (wpOp_plain rfl rfl ?_) (wpOp_plain rfl rfl ?_)
      · go_simp
        obtain ⟨g1, hg1⟩ : ∃ g, y0.v.heap.size = g := ⟨_, rfl⟩
        have ho1 := own_lit y0.v wr.heap.size 3 1 y0.b.size
        obtain ⟨y1, hy1, hB1⟩ : ∃ zz : Ext wr, y0.v.alloc (Obj.cells #[] 3) = zz.v ∧ Below y0.v.heap.size y0.v zz.v := ⟨⟨_, bA y0.b _⟩, rfl, bA (Below.refl _ _) _⟩
        rw [hy1, hg1] at ho1
        try rw [hg1]
        try rw [hy1]
        have HO1 := Lib.hid ho1; have HB1 := Lib.hid hB1
        clear ho1 hy1 hB1 hg1
        refine ⟨⟨(y1.up HRB.out), rfl⟩, ?_⟩
        try simp only [Act.put, List.setIfInBounds_toArray, List.set_cons_zero, List.set_cons_succ]
        refine wpAnyG_two (i := 4) (j := 6) (by kernel_rfl) (by decide) (by decide) (wpOp_plain rfl rfl ?_) (wpOp_plain rfl rfl ?_)

        · refine wp_append_any rfl (.tmp 32) (.tmp 33) 22 rfl wr.heap.size 3 i3 _ 1 8 Try.underlying22 I3.out Z3.out Z3'.out Z3''.out rfl (by decide) _ 0 [] (by first | (simp [Act.eval, Act.put]; done) | (simp [Act.eval, Act.put]; rfl)) HO1.out lp s lc (intsV fs) (by first | (simp [Act.eval, Act.put]; done) | (simp [Act.eval, Act.put]; rfl)) (by rw [intsV_len, hfs, Nat.mul_one]) (fun h0 => by
            obtain ⟨q0, c0, e0, hn0⟩ := HFS.out y1
            cases e0
            obtain ⟨g0, e0, _, _, n0⟩ := hn0 (by omega)
            exact ⟨_, e0, intsV_src n0⟩) intsV_one (by unfold maxLen; omega) (by omega) y1.b.size ?_
          intro v2 u2 hown2 hgr2 hnew2
          have hbz2 := below_grown y1.b HO1.out (Nat.le_refl _) hgr2
          obtain ⟨y2, hy2⟩ : ∃ zz : Ext wr, u2 = zz.v := ⟨⟨u2, hbz2⟩, rfl⟩
          rw [List.nil_append, Nat.zero_add] at hown2
          subst hy2
          have HO2 := Lib.hid hown2
          clear hown2 hgr2 hnew2 hbz2
          refine ⟨⟨(y2.up HRB.out), rfl⟩, ?_⟩
          try simp only [Act.put, List.setIfInBounds_toArray, List.set_cons_zero, List.set_cons_succ]
          refine wpAnyG_one (i := 6) (by kernel_rfl) (by decide) (wpOp_plain rfl rfl ?_)
          go_simp
          obtain ⟨g3, hg3⟩ : ∃ g, y2.v.heap.size = g := ⟨_, rfl⟩
          obtain ⟨y3, hy3, hB3, hc3, hl3⟩ : ∃ zz : Ext wr, y2.v.alloc (Obj.cells #[.int .i64 x] 3) = zz.v ∧ Below y2.v.heap.size y2.v zz.v ∧ zz.v.cell? ⟨g3, 0, none⟩ = some (.int .i64 x) ∧ g3 < zz.v.heap.size := ⟨⟨_, bA y2.b _⟩, rfl, bA (Below.refl _ _) _, by rw [← hg3]; clear hg3; go_simp, by rw [← hg3]; simp⟩
          have HG3 := Lib.hid (show y2.v.heap.size ≤ g3 by omega)
          try rw [hg3]
          try rw [hy3]
          have HC3 := Lib.hid hc3; have HL3 := Lib.hid hl3; have HB3 := Lib.hid hB3
          clear hc3 hl3 hy3 hB3 hg3
          refine ⟨⟨(y3.up HRB.out), rfl⟩, ?_⟩
          try simp only [Act.put, List.setIfInBounds_toArray, List.set_cons_zero, List.set_cons_succ]
          replace HO2 := Lib.hid (own_below HO2.out HB3.out)
          refine wpAnyG_one (i := 7) (by kernel_rfl) (by decide) (wpOp_plain rfl rfl ?_)
          refine wp_append_any rfl (.tmp 34) (.tmp 36) 22 rfl wr.heap.size 3 i3 _ 1 8 Try.underlying22 I3.out Z3.out Z3'.out Z3''.out rfl (by decide) v2 s _ (by simp [Act.eval, Act.put]) HO2.out (some ⟨g3, 0, none⟩) 1 _ [.int .i64 x] (by first | (simp [Act.eval, Act.put]; done) | (simp [Act.eval, Act.put]; rfl)) rfl (fun _ => ⟨_, rfl, fun j u hu => by
            have hj : j < 1 := by have := (List.getElem?_eq_some_iff.1 hu).1; simpa using this
            have hj0 : j = 0 := by omega
            subst hj0
            rw [add_at'', ← hu]; exact HC3.out⟩) (fun u hu => by
            have := List.mem_singleton.1 hu
            subst this; rfl) (by unfold maxLen; omega) (by omega) y3.b.size ?_
          intro v4 u4 hown4 hgr4 hnew4
          have hbz4 := below_grown y3.b HO2.out (Nat.le_refl _) hgr4
          obtain ⟨y4, hy4⟩ : ∃ zz : Ext wr, u4 = zz.v := ⟨⟨u4, hbz4⟩, rfl⟩
          subst hy4
          rw [← intsV_snoc, show s + 1 = (fs ++ [x]).length by rw [asF_snoc_len, hfs]] at hown4
          have hlr4 := intsV_own hown4
          obtain ⟨q4, c4, hv4, hq4⟩ := hlr4
          rw [asF_snoc_len, hfs] at hv4
          subst hv4
          have HLR4 := Lib.hid (show LRow y4.v wr.heap.size (fs ++ [x]) (.slice q4 (s + 1) c4) from ⟨q4, c4, by rw [asF_snoc_len, hfs], hq4⟩)
          clear hown4 hgr4 hnew4 hbz4 hq4
          refine ⟨⟨(y4.up HRB.out), rfl⟩, ?_⟩
          try simp only [Act.put, List.setIfInBounds_toArray, List.set_cons_zero, List.set_cons_succ]
          refine wpAnyG_one (i := 8) (by kernel_rfl) (by decide) (wpOp_plain rfl rfl ?_)
          go_simp
          go_at_call 106
          refine (HIH.out (s + 1) (fs ++ [x]) q4 c4 wr.heap.size y4.v (by rw [asF_snoc_len, hfs]) (by omega) y4.b.size (HI.out (y4.up HRB.out)) HLR4.out).mono ?_
          rintro e wl4 ⟨yq4, yc4, rfl, hbl4, hls4⟩
          obtain ⟨z4, hz4⟩ : ∃ zz : Ext wr, wl4 = zz.v := ⟨⟨wl4, bT y4.b hbl4⟩, rfl⟩
          subst hz4
          have HLS4 := Lib.hid hls4
          clear hbl4 hls4
          refine ⟨⟨(z4.up HRB.out), rfl⟩, ?_⟩
          try simp only [Act.put, List.setIfInBounds_toArray, List.set_cons_zero, List.set_cons_succ]
          obtain ⟨xs, hxo, hxx⟩ := (HOUT.out.bel z4.b).o
          obtain ⟨us, hul, huu⟩ := list_of (P := fun i u => LRow z4.v wr.heap.size ((lsts D j (s + 1) (fs ++ [x])).getD i []) u ∧ ∀ b o, yq4 = some ⟨b, o, none⟩ → z4.v.cell? ⟨b, o + i, none⟩ = some u) (lsts D j (s + 1) (fs ++ [x])).length (fun i hi => by
            obtain ⟨b, o, e, _, hc⟩ := HLS4.out (by omega)
            obtain ⟨u, h1, h2⟩ := hc i hi
            exact ⟨u, h2, fun b' o' e' => by rw [e] at e'; cases e'; exact h1⟩)
          have HXO := Lib.hid hxo; have HXX := Lib.hid hxx; have HUU := Lib.hid huu
          clear hxo hxx huu
          refine wpAnyG_one (i := 9) (by kernel_rfl) (by decide) (wpOp_plain rfl rfl ?_)
          refine wp_append_any rfl (.tmp 30) (.tmp 38) 95 rfl w1.heap.size 22 i5 _ 1 24 Try.underlying95 I5.out Z5.out Z5'.out Z5''.out rfl (by decide) u5 _ xs (by simp [Act.eval, Act.put]) HXO.out yq4 (lsts D j (s + 1) (fs ++ [x])).length _ us (by first | (simp [Act.eval, Act.put]; done) | (simp [Act.eval, Act.put]; rfl)) (by rw [hul, Nat.mul_one]) (fun h0 => by
            obtain ⟨b, o, e, _, hc⟩ := HLS4.out h0
            refine ⟨_, e, fun i u hu => ?_⟩
            have hi : i < us.length := (List.getElem?_eq_some_iff.1 hu).1
            obtain ⟨u', h1, h2, h3⟩ := HUU.out i (by omega)
            rw [hu] at h1
            cases h1
            rw [add_at'']; exact h3 b o e) (fun u hu => by
            obtain ⟨i, hi⟩ := List.getElem?_of_mem hu
            have hl : i < us.length := (List.getElem?_eq_some_iff.1 hi).1
            obtain ⟨u', h1, ⟨q', c', rfl, _⟩, _⟩ := HUU.out i (by omega)
            rw [hi] at h1
            cases h1
            rfl) (by have := HLE.out; unfold maxLen; omega) (by have := HLE.out; omega) (bT HRB.out z4.b).size ?_
          intro v9 w9 hown9 hgr9 hnew9
          have hbz9 := below_grown (bT HRB.out z4.b) HXO.out (Nat.le_refl _) hgr9
          have hout9 := OutS.app (lo := lo) (lo2 := wr.heap.size) HLO.out HXO.out HXX.out hul (fun i hi => by
            obtain ⟨u, h1, h2, h3⟩ := HUU.out i hi
            refine ⟨u, h1, h2, fun h0 g hg e => ?_⟩
            obtain ⟨q', c', rfl, h5⟩ := h2
            obtain ⟨g2, e2, l2, _⟩ := h5 h0
            have hg2 : g2 = g := by rw [e2] at hg; simpa [Value.ownBlock] using hg
            have := (HOUT.out.own g e.symm).2
            omega) hown9 hgr9 hnew9
          rw [HKS.out] at hout9
          have HOUT9 := Lib.hid hout9; have HBZ9 := Lib.hid hbz9
          clear hown9 hgr9 hnew9 hbz9 hout9
          refine ⟨⟨⟨w9, HBZ9.out⟩, rfl⟩, ?_⟩
          try simp only [Act.put, List.setIfInBounds_toArray, List.set_cons_zero, List.set_cons_succ]
          refine wpAnyG_done (by kernel_rfl) (by kernel_rfl) (wpOp_plain rfl rfl ?_)
          go_simp
          go_wp2
          go_roundw
          case rel => exact ⟨k + 1, by rw [HX1.out], hlt, HBZ9.out, HOUT9.out⟩
          case measure => first | (simp [intOf]; done) | (simp [intOf]; omega)
        · go_simp
          obtain ⟨g5, hg5⟩ : ∃ g, y1.v.heap.size = g := ⟨_, rfl⟩
          obtain ⟨y5, hy5, hB5, hc5, hl5⟩ : ∃ zz : Ext wr, y1.v.alloc (Obj.cells #[.int .i64 x] 3) = zz.v ∧ Below y1.v.heap.size y1.v zz.v ∧ zz.v.cell? ⟨g5, 0, none⟩ = some (.int .i64 x) ∧ g5 < zz.v.heap.size := ⟨⟨_, bA y1.b _⟩, rfl, bA (Below.refl _ _) _, by rw [← hg5]; clear hg5; go_simp, by rw [← hg5]; simp⟩
          have HG5 := Lib.hid (show y1.v.heap.size ≤ g5 by omega)
          try rw [hg5]
          try rw [hy5]
          have HC5 := Lib.hid hc5; have HL5 := Lib.hid hl5; have HB5 := Lib.hid hB5
          clear hc5 hl5 hy5 hB5 hg5
          refine ⟨⟨(y5.up HRB.out), rfl⟩, ?_⟩
          try simp only [Act.put, List.setIfInBounds_toArray, List.set_cons_zero, List.set_cons_succ]
          have HO1o := HO1
          replace HO1 := Lib.hid (own_below HO1.out HB5.out)
          refine wpAnyG_one (i := 4) (by kernel_rfl) (by decide) (wpOp_plain rfl rfl ?_)
          refine wp_append_any rfl (.tmp 32) (.tmp 33) 22 rfl wr.heap.size 3 i3 _ 1 8 Try.underlying22 I3.out Z3.out Z3'.out Z3''.out rfl (by decide) _ 0 [] (by first | (simp [Act.eval, Act.put]; done) | (simp [Act.eval, Act.put]; rfl)) HO1.out lp s lc (intsV fs) (by first | (simp [Act.eval, Act.put]; done) | (simp [Act.eval, Act.put]; rfl)) (by rw [intsV_len, hfs, Nat.mul_one]) (fun h0 => by
            obtain ⟨q0, c0, e0, hn0⟩ := HFS.out y5
            cases e0
            obtain ⟨g0, e0, _, _, n0⟩ := hn0 (by omega)
            exact ⟨_, e0, intsV_src n0⟩) intsV_one (by unfold maxLen; omega) (by omega) y5.b.size ?_
          intro v6 u6 hown6 hgr6 hnew6
          have hbz6 := below_grown y5.b HO1.out (Nat.le_refl _) hgr6
          obtain ⟨y6, hy6⟩ : ∃ zz : Ext wr, u6 = zz.v := ⟨⟨u6, hbz6⟩, rfl⟩
          rw [List.nil_append, Nat.zero_add] at hown6
          have hcc6 : y6.v.cell? ⟨g5, 0, none⟩ = some (.int .i64 x) := by
            rw [← hy6]
            exact (World.cell?_of_block (a := ⟨g5, 0, none⟩) (hgr6.block g5 HL5.out (fun e => by have := (HO1o.out.lt g5 e.symm).2; have := HG5.out; omega))).trans HC5.out
          have HC6 := Lib.hid hcc6
          clear hcc6
          subst hy6
          have HO6 := Lib.hid hown6
          clear hown6 hgr6 hnew6 hbz6
          refine ⟨⟨(y6.up HRB.out), rfl⟩, ?_⟩
          try simp only [Act.put, List.setIfInBounds_toArray, List.set_cons_zero, List.set_cons_succ]
          refine wpAnyG_one (i := 7) (by kernel_rfl) (by decide) (wpOp_plain rfl rfl ?_)
          refine wp_append_any rfl (.tmp 34) (.tmp 36) 22 rfl wr.heap.size 3 i3 _ 1 8 Try.underlying22 I3.out Z3.out Z3'.out Z3''.out rfl (by decide) v6 s _ (by simp [Act.eval, Act.put]) HO6.out (some ⟨g5, 0, none⟩) 1 _ [.int .i64 x] (by first | (simp [Act.eval, Act.put]; done) | (simp [Act.eval, Act.put]; rfl)) rfl (fun _ => ⟨_, rfl, fun j u hu => by
            have hj : j < 1 := by have := (List.getElem?_eq_some_iff.1 hu).1; simpa using this
            have hj0 : j = 0 := by omega
            subst hj0
            rw [add_at'', ← hu]; exact HC6.out⟩) (fun u hu => by
            have := List.mem_singleton.1 hu
            subst this; rfl) (by unfold maxLen; omega) (by omega) y6.b.size ?_
          intro v7 u7 hown7 hgr7 hnew7
          have hbz7 := below_grown y6.b HO6.out (Nat.le_refl _) hgr7
          obtain ⟨y7, hy7⟩ : ∃ zz : Ext wr, u7 = zz.v := ⟨⟨u7, hbz7⟩, rfl⟩
          subst hy7
          rw [← intsV_snoc, show s + 1 = (fs ++ [x]).length by rw [asF_snoc_len, hfs]] at hown7
          have hlr7 := intsV_own hown7
          obtain ⟨q7, c7, hv7, hq7⟩ := hlr7
          rw [asF_snoc_len, hfs] at hv7
          subst hv7
          have HLR7 := Lib.hid (show LRow y7.v wr.heap.size (fs ++ [x]) (.slice q7 (s + 1) c7) from ⟨q7, c7, by rw [asF_snoc_len, hfs], hq7⟩)
          clear hown7 hgr7 hnew7 hbz7 hq7
          refine ⟨⟨(y7.up HRB.out), rfl⟩, ?_⟩
          try simp only [Act.put, List.setIfInBounds_toArray, List.set_cons_zero, List.set_cons_succ]
          refine wpAnyG_one (i := 8) (by kernel_rfl) (by decide) (wpOp_plain rfl rfl ?_)
          go_simp
          go_at_call 106
          refine (HIH.out (s + 1) (fs ++ [x]) q7 c7 wr.heap.size y7.v (by rw [asF_snoc_len, hfs]) (by omega) y7.b.size (HI.out (y7.up HRB.out)) HLR7.out).mono ?_
          rintro e wl7 ⟨yq7, yc7, rfl, hbl7, hls7⟩
          obtain ⟨z7, hz7⟩ : ∃ zz : Ext wr, wl7 = zz.v := ⟨⟨wl7, bT y7.b hbl7⟩, rfl⟩
          subst hz7
          have HLS7 := Lib.hid hls7
          clear hbl7 hls7
          refine ⟨⟨(z7.up HRB.out), rfl⟩, ?_⟩
          try simp only [Act.put, List.setIfInBounds_toArray, List.set_cons_zero, List.set_cons_succ]
          obtain ⟨xs, hxo, hxx⟩ := (HOUT.out.bel z7.b).o
          obtain ⟨us, hul, huu⟩ := list_of (P := fun i u => LRow z7.v wr.heap.size ((lsts D j (s + 1) (fs ++ [x])).getD i []) u ∧ ∀ b o, yq7 = some ⟨b, o, none⟩ → z7.v.cell? ⟨b, o + i, none⟩ = some u) (lsts D j (s + 1) (fs ++ [x])).length (fun i hi => by
            obtain ⟨b, o, e, _, hc⟩ := HLS7.out (by omega)
            obtain ⟨u, h1, h2⟩ := hc i hi
            exact ⟨u, h2, fun b' o' e' => by rw [e] at e'; cases e'; exact h1⟩)
          have HXO := Lib.hid hxo; have HXX := Lib.hid hxx; have HUU := Lib.hid huu
          clear hxo hxx huu
          refine wpAnyG_one (i := 9) (by kernel_rfl) (by decide) (wpOp_plain rfl rfl ?_)
          refine wp_append_any rfl (.tmp 30) (.tmp 38) 95 rfl w1.heap.size 22 i5 _ 1 24 Try.underlying95 I5.out Z5.out Z5'.out Z5''.out rfl (by decide) u5 _ xs (by simp [Act.eval, Act.put]) HXO.out yq7 (lsts D j (s + 1) (fs ++ [x])).length _ us (by first | (simp [Act.eval, Act.put]; done) | (simp [Act.eval, Act.put]; rfl)) (by rw [hul, Nat.mul_one]) (fun h0 => by
            obtain ⟨b, o, e, _, hc⟩ := HLS7.out h0
            refine ⟨_, e, fun i u hu => ?_⟩
            have hi : i < us.length := (List.getElem?_eq_some_iff.1 hu).1
            obtain ⟨u', h1, h2, h3⟩ := HUU.out i (by omega)
            rw [hu] at h1
            cases h1
            rw [add_at'']; exact h3 b o e) (fun u hu => by
            obtain ⟨i, hi⟩ := List.getElem?_of_mem hu
            have hl : i < us.length := (List.getElem?_eq_some_iff.1 hi).1
            obtain ⟨u', h1, ⟨q', c', rfl, _⟩, _⟩ := HUU.out i (by omega)
            rw [hi] at h1
            cases h1
            rfl) (by have := HLE.out; unfold maxLen; omega) (by have := HLE.out; omega) (bT HRB.out z7.b).size ?_
          intro v9 w9 hown9 hgr9 hnew9
          have hbz9 := below_grown (bT HRB.out z7.b) HXO.out (Nat.le_refl _) hgr9
          have hout9 := OutS.app (lo := lo) (lo2 := wr.heap.size) HLO.out HXO.out HXX.out hul (fun i hi => by
            obtain ⟨u, h1, h2, h3⟩ := HUU.out i hi
            refine ⟨u, h1, h2, fun h0 g hg e => ?_⟩
            obtain ⟨q', c', rfl, h5⟩ := h2
            obtain ⟨g2, e2, l2, _⟩ := h5 h0
            have hg2 : g2 = g := by rw [e2] at hg; simpa [Value.ownBlock] using hg
            have := (HOUT.out.own g e.symm).2
            omega) hown9 hgr9 hnew9
          rw [HKS.out] at hout9
          have HOUT9 := Lib.hid hout9; have HBZ9 := Lib.hid hbz9
          clear hown9 hgr9 hnew9 hbz9 hout9
          refine ⟨⟨⟨w9, HBZ9.out⟩, rfl⟩, ?_⟩
          try simp only [Act.put, List.setIfInBounds_toArray, List.set_cons_zero, List.set_cons_succ]
          refine wpAnyG_done (by kernel_rfl) (by kernel_rfl) (wpOp_plain rfl rfl ?_)
          go_simp
          go_wp2
          go_roundw
          case rel => exact ⟨k + 1, by rw [HX1.out], hlt, HBZ9.out, HOUT9.out⟩
          case measure => first | (simp [intOf]; done) | (simp [intOf]; omega)
      · go_simp
        obtain ⟨g8, hg8⟩ : ∃ g, y0.v.heap.size = g := ⟨_, rfl⟩
        obtain ⟨y8, hy8, hB8, hc8, hl8⟩ : ∃ zz : Ext wr, y0.v.alloc (Obj.cells #[.int .i64 x] 3) = zz.v ∧ Below y0.v.heap.size y0.v zz.v ∧ zz.v.cell? ⟨g8, 0, none⟩ = some (.int .i64 x) ∧ g8 < zz.v.heap.size := ⟨⟨_, bA y0.b _⟩, rfl, bA (Below.refl _ _) _, by rw [← hg8]; clear hg8; go_simp, by rw [← hg8]; simp⟩
        have HG8 := Lib.hid (show y0.v.heap.size ≤ g8 by omega)
        try rw [hg8]
        try rw [hy8]
        have HC8 := Lib.hid hc8; have HL8 := Lib.hid hl8; have HB8 := Lib.hid hB8
        clear hc8 hl8 hy8 hB8 hg8
        refine ⟨⟨(y8.up HRB.out), rfl⟩, ?_⟩
        try simp only [Act.put, List.setIfInBounds_toArray, List.set_cons_zero, List.set_cons_succ]
        refine wpAnyG_one (i := 2) (by kernel_rfl) (by decide) (wpOp_plain rfl rfl ?_)
        go_simp
        obtain ⟨g9, hg9⟩ : ∃ g, y8.v.heap.size = g := ⟨_, rfl⟩
        have ho9 := own_lit y8.v wr.heap.size 3 1 y8.b.size
        obtain ⟨y9, hy9, hB9⟩ : ∃ zz : Ext wr, y8.v.alloc (Obj.cells #[] 3) = zz.v ∧ Below y8.v.heap.size y8.v zz.v := ⟨⟨_, bA y8.b _⟩, rfl, bA (Below.refl _ _) _⟩
        rw [hy9, hg9] at ho9
        try rw [hg9]
        try rw [hy9]
        have HO9 := Lib.hid ho9; have HB9 := Lib.hid hB9
        have HGG := Lib.hid (show y8.v.heap.size ≤ g9 by omega)
        clear ho9 hy9 hB9 hg9
        refine ⟨⟨(y9.up HRB.out), rfl⟩, ?_⟩
        try simp only [Act.put, List.setIfInBounds_toArray, List.set_cons_zero, List.set_cons_succ]
        refine wpAnyG_one (i := 4) (by kernel_rfl) (by decide) (wpOp_plain rfl rfl ?_)
        refine wp_append_any rfl (.tmp 32) (.tmp 33) 22 rfl wr.heap.size 3 i3 _ 1 8 Try.underlying22 I3.out Z3.out Z3'.out Z3''.out rfl (by decide) _ 0 [] (by first | (simp [Act.eval, Act.put]; done) | (simp [Act.eval, Act.put]; rfl)) HO9.out lp s lc (intsV fs) (by first | (simp [Act.eval, Act.put]; done) | (simp [Act.eval, Act.put]; rfl)) (by rw [intsV_len, hfs, Nat.mul_one]) (fun h0 => by
          obtain ⟨q0, c0, e0, hn0⟩ := HFS.out y9
          cases e0
          obtain ⟨g0, e0, _, _, n0⟩ := hn0 (by omega)
          exact ⟨_, e0, intsV_src n0⟩) intsV_one (by unfold maxLen; omega) (by omega) y9.b.size ?_
        intro v10 u10 hown10 hgr10 hnew10
        have hbz10 := below_grown y9.b HO9.out (Nat.le_refl _) hgr10
        obtain ⟨y10, hy10⟩ : ∃ zz : Ext wr, u10 = zz.v := ⟨⟨u10, hbz10⟩, rfl⟩
        rw [List.nil_append, Nat.zero_add] at hown10
        have hcc10 : y10.v.cell? ⟨g8, 0, none⟩ = some (.int .i64 x) := by
          rw [← hy10]
          refine (World.cell?_of_block (a := ⟨g8, 0, none⟩) (hgr10.block g8 (Nat.lt_of_lt_of_le HL8.out HB9.out.size) (fun e => ?_))).trans ((HB9.out.cell (p := ⟨g8, 0, none⟩) HL8.out).trans HC8.out)
          have := HGG.out
          simp only [Value.ownBlock, Option.some.injEq] at e
          have h9 := HL8.out
          omega
        have HC10 := Lib.hid hcc10
        clear hcc10
        subst hy10
        have HO10 := Lib.hid hown10
        clear hown10 hgr10 hnew10 hbz10
        refine ⟨⟨(y10.up HRB.out), rfl⟩, ?_⟩
        try simp only [Act.put, List.setIfInBounds_toArray, List.set_cons_zero, List.set_cons_succ]
        refine wpAnyG_one (i := 7) (by kernel_rfl) (by decide) (wpOp_plain rfl rfl ?_)
        refine wp_append_any rfl (.tmp 34) (.tmp 36) 22 rfl wr.heap.size 3 i3 _ 1 8 Try.underlying22 I3.out Z3.out Z3'.out Z3''.out rfl (by decide) v10 s _ (by simp [Act.eval, Act.put]) HO10.out (some ⟨g8, 0, none⟩) 1 _ [.int .i64 x] (by first | (simp [Act.eval, Act.put]; done) | (simp [Act.eval, Act.put]; rfl)) rfl (fun _ => ⟨_, rfl, fun j u hu => by
          have hj : j < 1 := by have := (List.getElem?_eq_some_iff.1 hu).1; simpa using this
          have hj0 : j = 0 := by omega
          subst hj0
          rw [add_at'', ← hu]; exact HC10.out⟩) (fun u hu => by
          have := List.mem_singleton.1 hu
          subst this; rfl) (by unfold maxLen; omega) (by omega) y10.b.size ?_
        intro v11 u11 hown11 hgr11 hnew11
        have hbz11 := below_grown y10.b HO10.out (Nat.le_refl _) hgr11
        obtain ⟨y11, hy11⟩ : ∃ zz : Ext wr, u11 = zz.v := ⟨⟨u11, hbz11⟩, rfl⟩
        subst hy11
        rw [← intsV_snoc, show s + 1 = (fs ++ [x]).length by rw [asF_snoc_len, hfs]] at hown11
        have hlr11 := intsV_own hown11
        obtain ⟨q11, c11, hv11, hq11⟩ := hlr11
        rw [asF_snoc_len, hfs] at hv11
        subst hv11
        have HLR11 := Lib.hid (show LRow y11.v wr.heap.size (fs ++ [x]) (.slice q11 (s + 1) c11) from ⟨q11, c11, by rw [asF_snoc_len, hfs], hq11⟩)
        clear hown11 hgr11 hnew11 hbz11 hq11
        refine ⟨⟨(y11.up HRB.out), rfl⟩, ?_⟩
        try simp only [Act.put, List.setIfInBounds_toArray, List.set_cons_zero, List.set_cons_succ]
        refine wpAnyG_one (i := 8) (by kernel_rfl) (by decide) (wpOp_plain rfl rfl ?_)
        go_simp
        go_at_call 106
        refine (HIH.out (s + 1) (fs ++ [x]) q11 c11 wr.heap.size y11.v (by rw [asF_snoc_len, hfs]) (by omega) y11.b.size (HI.out (y11.up HRB.out)) HLR11.out).mono ?_
        rintro e wl11 ⟨yq11, yc11, rfl, hbl11, hls11⟩
        obtain ⟨z11, hz11⟩ : ∃ zz : Ext wr, wl11 = zz.v := ⟨⟨wl11, bT y11.b hbl11⟩, rfl⟩
        subst hz11
        have HLS11 := Lib.hid hls11
        clear hbl11 hls11
        refine ⟨⟨(z11.up HRB.out), rfl⟩, ?_⟩
        try simp only [Act.put, List.setIfInBounds_toArray, List.set_cons_zero, List.set_cons_succ]
        obtain ⟨xs, hxo, hxx⟩ := (HOUT.out.bel z11.b).o
        obtain ⟨us, hul, huu⟩ := list_of (P := fun i u => LRow z11.v wr.heap.size ((lsts D j (s + 1) (fs ++ [x])).getD i []) u ∧ ∀ b o, yq11 = some ⟨b, o, none⟩ → z11.v.cell? ⟨b, o + i, none⟩ = some u) (lsts D j (s + 1) (fs ++ [x])).length (fun i hi => by
          obtain ⟨b, o, e, _, hc⟩ := HLS11.out (by omega)
          obtain ⟨u, h1, h2⟩ := hc i hi
          exact ⟨u, h2, fun b' o' e' => by rw [e] at e'; cases e'; exact h1⟩)
        have HXO := Lib.hid hxo; have HXX := Lib.hid hxx; have HUU := Lib.hid huu
        clear hxo hxx huu
        refine wpAnyG_one (i := 9) (by kernel_rfl) (by decide) (wpOp_plain rfl rfl ?_)
        refine wp_append_any rfl (.tmp 30) (.tmp 38) 95 rfl w1.heap.size 22 i5 _ 1 24 Try.underlying95 I5.out Z5.out Z5'.out Z5''.out rfl (by decide) u5 _ xs (by simp [Act.eval, Act.put]) HXO.out yq11 (lsts D j (s + 1) (fs ++ [x])).length _ us (by first | (simp [Act.eval, Act.put]; done) | (simp [Act.eval, Act.put]; rfl)) (by rw [hul, Nat.mul_one]) (fun h0 => by
          obtain ⟨b, o, e, _, hc⟩ := HLS11.out h0
          refine ⟨_, e, fun i u hu => ?_⟩
          have hi : i < us.length := (List.getElem?_eq_some_iff.1 hu).1
          obtain ⟨u', h1, h2, h3⟩ := HUU.out i (by omega)
          rw [hu] at h1
          cases h1
          rw [add_at'']; exact h3 b o e) (fun u hu => by
          obtain ⟨i, hi⟩ := List.getElem?_of_mem hu
          have hl : i < us.length := (List.getElem?_eq_some_iff.1 hi).1
          obtain ⟨u', h1, ⟨q', c', rfl, _⟩, _⟩ := HUU.out i (by omega)
          rw [hi] at h1
          cases h1
          rfl) (by have := HLE.out; unfold maxLen; omega) (by have := HLE.out; omega) (bT HRB.out z11.b).size ?_
        intro v9 w9 hown9 hgr9 hnew9
        have hbz9 := below_grown (bT HRB.out z11.b) HXO.out (Nat.le_refl _) hgr9
        have hout9 := OutS.app (lo := lo) (lo2 := wr.heap.size) HLO.out HXO.out HXX.out hul (fun i hi => by
          obtain ⟨u, h1, h2, h3⟩ := HUU.out i hi
          refine ⟨u, h1, h2, fun h0 g hg e => ?_⟩
          obtain ⟨q', c', rfl, h5⟩ := h2
          obtain ⟨g2, e2, l2, _⟩ := h5 h0
          have hg2 : g2 = g := by rw [e2] at hg; simpa [Value.ownBlock] using hg
          have := (HOUT.out.own g e.symm).2
          omega) hown9 hgr9 hnew9
        rw [HKS.out] at hout9
        have HOUT9 := Lib.hid hout9; have HBZ9 := Lib.hid hbz9
        clear hown9 hgr9 hnew9 hbz9 hout9
        refine ⟨⟨⟨w9, HBZ9.out⟩, rfl⟩, ?_⟩
        try simp only [Act.put, List.setIfInBounds_toArray, List.set_cons_zero, List.set_cons_succ]
        refine wpAnyG_done (by kernel_rfl) (by kernel_rfl) (wpOp_plain rfl rfl ?_)
        go_simp
        go_wp2
        go_roundw
        case rel => exact ⟨k + 1, by rw [HX1.out], hlt, HBZ9.out, HOUT9.out⟩
        case measure => first | (simp [intOf]; done) | (simp [intOf]; omega)

    · have hke : k = wid D s := by omega
      subst hke
      have jk : decide (D.fr s + (wid D s : Int) ≤ D.to s) = false := by simp; omega
      have nk : ¬ D.fr s + (wid D s : Int) ≤ D.to s := by omega
      obtain ⟨x, hx⟩ : ∃ x, D.fr s + (wid D s : Int) = x := ⟨_, rfl⟩
      rw [hx] at jk nk ⊢
      clear hx hwd hk hlt
      obtain ⟨y00, hy00⟩ := rebase wr
      rw [hy00]
      obtain ⟨pq, pc, rfl, hpl⟩ := HOUT.out.lst
      have HPL := Lib.hid hpl
      clear hpl
      go_wp2
      go_ret
      refine ⟨_, ⟨_, rfl⟩, bT HB.out (by rw [← hy00]; exact HRB.out), ?_⟩
      rw [← hy00]; exact HPL.out
end Go.Proofs.Ytegkgfiaegpihaa
