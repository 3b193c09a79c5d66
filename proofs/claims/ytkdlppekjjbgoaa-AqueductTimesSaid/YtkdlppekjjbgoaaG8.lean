/- Lines of an aqueduct: a copy, with what its capacities are. -/
import Derived.Test.YtkdlppekjjbgoaaG4

set_option linter.unusedSimpArgs false

set_option linter.unusedVariables false

namespace Go.Proofs.Ytkdlppekjjbgoaa

open Go.RowKit

theorem step_append_copyC {P : Program} {ops : Array Oper} {o : Oper} {a : Act} {w : World} {K : Act → World → Prop} {Q : Exit → Act → World → Prop} {E : Prop}
    (hg : o.guard = none) (s x : Operand) (t : TypeId) (hop : o.op = Op.call { callee := Callee.builtin Builtin.append, args := #[s, x], argTypes := #[t, t] })
    (e : TypeId) (i : TypeInfo) (z : Value) (size bytes : Nat) (h1 : P.underlying t = some (.slice e)) (h2 : P.info? e = some i) (h3 : i.zero = some z) (h4 : i.size = size) (h5 : i.bytes = bytes) (h6 : z.cells.size = size) (h7 : 0 < size)
    (g : Nat) (hs : a.eval s = .slice (some ⟨g, 0, none⟩) 0 0)
    (ad : Option Addr) (m c : Nat) (hx : a.eval x = .slice ad m c)
    (hc : 0 < m → ∃ b o, ad = some ⟨b, o, none⟩ ∧ ∀ j, j < m * size → ∃ u, w.cell? ⟨b, o + j, none⟩ = some u ∧ u.oneCell' = true)
    (b1 : m ≤ maxLen) (b2 : m * bytes ≤ 140737488355328)
    (hK : ∀ y c' w', m ≤ c' → CopiedF w w' ad (m * size) y → K (a.put o.dst (.slice y m c')) w') :
    if Region.wanted o (yielded ops a.tmps) = true then Oper.wp P o a w K Q else E := by
  by_cases hm : 0 < m
  · obtain ⟨b, of, rfl, hcell⟩ := hc hm
    have hch : ∃ f : Nat → Value, ∀ j, j < m * size → w.cell? ⟨b, of + j, none⟩ = some (f j) ∧ (f j).oneCell' = true :=
      ⟨fun j => (w.cell? ⟨b, of + j, none⟩).getD undef, fun j hj => by obtain ⟨u, hu, hu1⟩ := hcell j hj; simp [hu, hu1]⟩
    obtain ⟨f, hf⟩ := hch
    have hadd : ∀ (x o j : Nat), (⟨x, o, none⟩ : Addr).add j = ⟨x, o + j, none⟩ := fun x o j => by unfold Addr.add; split <;> simp_all
    refine step_append_grows hg s x t hop e i z size bytes h1 h2 h3 h4 h5 h6 h7 (some ⟨g, 0, none⟩) 0 0 [] hs (by simp) (by simp) (by simp) ⟨b, of, none⟩ m c ((List.range (m * size)).map f) hx (by simp) ?_ ?_ (by omega) (by omega) (by rw [Nat.zero_add]; exact b2) ?_
    · intro j u hu
      have hj : j < m * size := by have := (List.getElem?_eq_some_iff.1 hu).1; simpa using this
      simp [hj] at hu
      rw [hadd, (hf j hj).1, hu]
    · intro u hu
      simp at hu
      obtain ⟨j, hj, rfl⟩ := hu
      exact (hf j hj).2
    · intro v' w' hown hgrow
      have hpos : 0 < m * size := Nat.mul_pos hm h7
      rcases hown.2 with ⟨_, h0⟩ | ⟨gb, cap, cur, rfl, hb, hgb, hle, _, hsz, htk⟩
      · omega
      · simp only [Nat.zero_add, List.nil_append] at *
        refine hK _ _ _ (by omega) ⟨⟨hgrow.os, hgrow.tape, hgrow.output, hgrow.size, fun k hk => hgrow.block k hk (by simp)⟩, fun _ => ⟨gb, rfl, hb, ?_, ?_⟩, fun _ b' hb' i => by simp only [Option.some.injEq, Addr.mk.injEq] at hb'; rw [← hb'.1]; simp [World.frozen?, hgb]⟩
        · exact (Array.getElem?_eq_some_iff.1 hgb).1
        · intro a' ha' j hj
          simp only [Option.some.injEq] at ha'
          subst ha'
          rw [hadd, (hf j hj).1, cell_of_row w' gb j cur e (0, 0) hgb]
          have h2 : (cur.toList.take (m * size))[j]? = some (f j) := by rw [htk]; simp [hj]
          rw [List.getElem?_take_of_lt hj] at h2
          simpa using h2
  · obtain rfl : m = 0 := by omega
    have hw : Region.wanted o (yielded ops a.tmps) = true := by simp [Region.wanted, hg]
    rw [if_pos hw]
    have hrun : (Builtin.append_ #[t, t] o.type #[.slice (some ⟨g, 0, none⟩) 0 0, .slice ad 0 c]).run P w = .ok (.slice (some ⟨g, 0, none⟩) 0 0) w := by
      cases ad <;> simp [Builtin.append_, run_underlying h1, sizeOf, typeInfo, h2, Builtin.lenOf, Builtin.firstCells, loadCells, loadCellsFrom, storeCells, Sem.run_bind]
    unfold Oper.wp
    simp [execOp, hop, resolve, invoke, builtin, hs, hx, hrun, Result.andThen]
    exact hK _ _ _ (Nat.zero_le _) ⟨Below.refl _ _, fun h => by omega, fun h => by omega⟩
theorem append_copyC {P : Program} {ops : Array Oper} {o : Oper} {a : Act} {w : World} {K : Act → World → Prop} {Q : Exit → Act → World → Prop}
    (hg : o.guard = none) (s x : Operand) (t : TypeId) (hop : o.op = Op.call { callee := Callee.builtin Builtin.append, args := #[s, x], argTypes := #[t, t] })
    (e : TypeId) (i : TypeInfo) (z : Value) (size bytes : Nat) (h1 : P.underlying t = some (.slice e)) (h2 : P.info? e = some i) (h3 : i.zero = some z) (h4 : i.size = size) (h5 : i.bytes = bytes) (h6 : z.cells.size = size) (h7 : 0 < size)
    (g : Nat) (hs : a.eval s = .slice (some ⟨g, 0, none⟩) 0 0)
    (ad : Option Addr) (m c : Nat) (hx : a.eval x = .slice ad m c)
    (hc : 0 < m → ∃ b o, ad = some ⟨b, o, none⟩ ∧ ∀ j, j < m * size → ∃ u, w.cell? ⟨b, o + j, none⟩ = some u ∧ u.oneCell' = true)
    (b1 : m ≤ maxLen) (b2 : m * bytes ≤ 140737488355328)
    (hK : ∀ y c' w', m ≤ c' → CopiedF w w' ad (m * size) y → K (a.put o.dst (.slice y m c')) w') : Oper.wp P o a w K Q := by
  have h := step_append_copyC (ops := ops) (Q := Q) (E := False) hg s x t hop e i z size bytes h1 h2 h3 h4 h5 h6 h7 g hs ad m c hx hc b1 b2 hK
  rwa [if_pos (by simp [Region.wanted, hg])] at h
/-- the odds lie in new memory, open to stores -/
def OwnQ (w w' : World) (D : Duct) (q' : Option Addr) : Prop := 0 < D.m → ∃ g o, q' = some ⟨g, o, none⟩ ∧ w.heap.size ≤ g ∧ ∀ i, w'.frozen? ⟨g, i, none⟩ = false
theorem own_fin {w w2 wo wl : World} {D : Duct} {q yO : Option Addr} {bx : Nat} {u v : Value} (hO : CopiedF wo wl q (D.m * 1) yO) (hB : Below w.heap.size w w2) (hb : Below w2.heap.size w2 wo) (hz : w.heap.size ≤ bx ∧ bx < w2.heap.size) :
    OwnQ w ((wl.setCell ⟨bx, 0, none⟩ u).setCell ⟨bx, 1, none⟩ v) D yO := fun hm => by
  obtain ⟨g', e3, m1, m2, _⟩ := hO.here (by omega)
  refine ⟨g', 0, e3, by have := hB.size; have := hb.size; omega, fun i => ?_⟩
  have hf := hO.open' (by omega) g' e3 i
  simpa using hf
set_option maxRecDepth 100000 in
set_option maxHeartbeats 4000000 in
theorem copyC_any (D : Duct) (p q : Option Addr) (c d : Nat) (w : World) (hn : D.n ≤ 40) (hm : D.m ≤ 40) (hi : DuctIn w w.heap.size D p q) :
    Calls Try.prog 25 #[.agg #[.slice p D.n c, .slice q D.m d]] w fun e w' => ∃ p' c' q' d', e = .returned (.agg #[.slice p' D.n c', .slice q' D.m d']) ∧ CopyIn w w' D p' q' ∧ OwnQ w w' D q' ∧ D.n ≤ c' ∧ D.m ≤ d' := by
  obtain ⟨i3, hi3, hz3, hz3', hz3''⟩ := info_parts infoI
  obtain ⟨i4, hi4, hz4, hz4', hz4''⟩ := info_parts infoP
  have S1 := Lib.hid (show D.n ≤ maxLen by unfold maxLen; omega); have S2 := Lib.hid (show D.m ≤ maxLen by unfold maxLen; omega)
  have I3 := Lib.hid hi3; have Z3 := Lib.hid hz3; have Z3' := Lib.hid hz3'; have Z3'' := Lib.hid hz3''; clear hi3 hz3 hz3' hz3''
  have I4 := Lib.hid hi4; have Z4 := Lib.hid hz4; have Z4' := Lib.hid hz4'; have Z4'' := Lib.hid hz4''; clear hi4 hz4 hz4' hz4''
  obtain ⟨w1, x1, hw1, hb1, hz1, F0, F1⟩ := box_line w p q D.n D.m c d
  obtain ⟨w2, x2, hw2, hb2, hz2, G0, G1, Gz⟩ := box_nil x1.v
  have HB := Lib.hid (bT (bT hb1 x1.b) hb2)
  have HI : Hid (∀ x : Ext w2, DuctIn x.v x.v.heap.size D p q) := fun x => (hi.bel (bT hb1 x1.b)).bel (bT hb2 x.b)
  have HZ : Hid (w.heap.size ≤ x1.v.heap.size ∧ x1.v.heap.size < w2.heap.size) := by have := hb1.size; have := x1.b.size; exact ⟨by omega, by omega⟩
  replace F0 : ∀ y : Ext w2, y.v.cell? ⟨w.heap.size, 0, none⟩ = some (.slice p D.n c) := fun y => F0 (y.up (bT x1.b hb2))
  replace F1 : ∀ y : Ext w2, y.v.cell? ⟨w.heap.size, 1, none⟩ = some (.slice q D.m d) := fun y => F1 (y.up (bT x1.b hb2))
  clear hb1 hz1 hi hb2 hz2
  go_enter Try.func25, Try.ntmps25
  go_wp2
  refine wp_region_lastE 9 (by kernel_rfl) rfl (fun yr => ?_)
  refine wpAnyG_take (i := 1) (v := ?_) (by kernel_rfl) rfl (by kernel_rfl) (by kernel_rfl) (by kernel_rfl) (fun _ _ _ h => h) (Or.inl ⟨by rfl, ?_⟩) ⟨_, rfl⟩ ?_
  rotate_left
  · rintro wS ⟨yS, rfl⟩
    go_simp
    try (with_reducible rfl)
  try simp only [Act.put, List.setIfInBounds_toArray, List.set_cons_zero, List.set_cons_succ]
  refine wpAnyG_take (i := 2) (v := ?_) (by kernel_rfl) rfl (by kernel_rfl) (by kernel_rfl) (by kernel_rfl) (fun _ _ _ h => h) (Or.inl ⟨by rfl, ?_⟩) ⟨_, rfl⟩ ?_
  rotate_left
  · rintro wS ⟨yS, rfl⟩
    go_simp
    try (with_reducible rfl)
  try simp only [Act.put, List.setIfInBounds_toArray, List.set_cons_zero, List.set_cons_succ]
  refine wpAnyG_take (i := 5) (v := ?_) (by kernel_rfl) rfl (by kernel_rfl) (by kernel_rfl) (by kernel_rfl) (fun _ _ _ h => h) (Or.inl ⟨by rfl, ?_⟩) ⟨_, rfl⟩ ?_
  rotate_left
  · rintro wS ⟨yS, rfl⟩
    go_simp
    try (with_reducible rfl)
  try simp only [Act.put, List.setIfInBounds_toArray, List.set_cons_zero, List.set_cons_succ]
  refine wpAnyG_take (i := 6) (v := ?_) (by kernel_rfl) rfl (by kernel_rfl) (by kernel_rfl) (by kernel_rfl) (fun _ _ _ h => h) (Or.inl ⟨by rfl, ?_⟩) ⟨_, rfl⟩ ?_
  rotate_left
  · rintro wS ⟨yS, rfl⟩
    go_simp
    try (with_reducible rfl)
  try simp only [Act.put, List.setIfInBounds_toArray, List.set_cons_zero, List.set_cons_succ]
  refine wpAnyG_two (i := 0) (j := 4) (by kernel_rfl) (by decide) (by decide) ?_ ?_
  · refine wpOp_plain rfl rfl ?_
    go_simp
    obtain ⟨ya, hya⟩ : ∃ zz : Ext w2, yr.v.alloc (Obj.cells #[] 39) = zz.v := ⟨⟨_, bA yr.b _⟩, rfl⟩
    rw [hya]
    clear hya
    refine ⟨⟨_, rfl⟩, ?_⟩
    try simp only [Act.put, List.setIfInBounds_toArray, List.set_cons_zero, List.set_cons_succ]
    refine wpAnyG_two (i := 3) (j := 4) (by kernel_rfl) (by decide) (by decide) ?_ ?_
    · refine wpOp_plain rfl rfl ?_
      refine append_copyC (ops := #[]) rfl (.tmp 3) (.tmp 5) 22 rfl 39 i4 _ 3 24 Try.underlying22 I4.out Z4.out Z4'.out Z4''.out rfl (by decide) _ (by simp [Act.eval, Act.put]; rfl) p D.n c (by simp [Act.eval, Act.put]) (srcP (HI.out ya)) S1.out (by omega) ?_
      intro yP cP w' hcapP hcP
      have HCP := Lib.hid hcapP; clear hcapP
      obtain ⟨yb, rfl⟩ : ∃ zz : Ext w2, w' = zz.v := ⟨⟨_, bT ya.b hcP.below⟩, rfl⟩
      have HP := Lib.hid hcP
      clear hcP
      refine ⟨⟨_, rfl⟩, ?_⟩
      try simp only [Act.put, List.setIfInBounds_toArray, List.set_cons_zero, List.set_cons_succ]
      refine wpAnyG_one (i := 4) (by kernel_rfl) (by decide) ?_
      refine wpOp_plain rfl rfl ?_
      go_simp
      obtain ⟨yc, hyc, hPO⟩ : ∃ zz : Ext w2, yb.v.alloc (Obj.cells #[] 3) = zz.v ∧ Below yb.v.heap.size yb.v zz.v := ⟨⟨_, bA yb.b _⟩, rfl, bA (Below.refl _ _) _⟩
      have HPO := Lib.hid hPO
      clear hPO
      rw [hyc]
      clear hyc
      refine ⟨⟨_, rfl⟩, ?_⟩
      try simp only [Act.put, List.setIfInBounds_toArray, List.set_cons_zero, List.set_cons_succ]
      refine wpAnyG_one (i := 7) (by kernel_rfl) (by decide) ?_
      refine wpOp_plain rfl rfl ?_
      refine append_copyC (ops := #[]) rfl (.tmp 7) (.tmp 9) 23 rfl 3 i3 _ 1 8 Try.underlying23 I3.out Z3.out Z3'.out Z3''.out rfl (by decide) _ (by simp [Act.eval, Act.put]; rfl) q D.m d (by simp [Act.eval, Act.put]) (srcO (HI.out yc)) S2.out (by omega) ?_
      intro yO cO w' hcapO hcO
      have HCO := Lib.hid hcapO; clear hcapO
      obtain ⟨yd, rfl⟩ : ∃ zz : Ext w2, w' = zz.v := ⟨⟨_, bT yc.b hcO.below⟩, rfl⟩
      have HO := Lib.hid hcO
      clear hcO
      refine ⟨⟨_, rfl⟩, ?_⟩
      try simp only [Act.put, List.setIfInBounds_toArray, List.set_cons_zero, List.set_cons_succ]
      refine wpAnyG_take (i := 8) (v := ?_) (by kernel_rfl) rfl (by kernel_rfl) (by kernel_rfl) (by kernel_rfl) (fun _ _ _ h => h) (Or.inl ⟨by rfl, ?_⟩) ⟨_, rfl⟩ ?_
      rotate_left
      · rintro wS ⟨yS, rfl⟩
        go_simp
        try (with_reducible rfl)
      try simp only [Act.put, List.setIfInBounds_toArray, List.set_cons_zero, List.set_cons_succ]
      refine wpAnyG_done (by kernel_rfl) (by kernel_rfl) (wpOp_plain rfl rfl ?_)
      go_simp
      go_wp2
      refine bodyPost_ret (v := .agg #[.slice yP D.n cP, .slice yO D.m cO]) (by simp [results, Try.f25, go_sem, G0, G1, Gz]) rfl ?_
      exact ⟨_, _, _, _, rfl, (copy_fin (HI.out ya) (HI.out yc) HP.out HO.out HPO.out HB.out ya.b yd.b HZ.out).2, own_fin HO.out HB.out yc.b HZ.out, HCP.out, HCO.out⟩
    · refine wpOp_plain rfl rfl ?_
      go_simp
      obtain ⟨yb, hyb⟩ : ∃ zz : Ext w2, ya.v.alloc (Obj.cells #[] 3) = zz.v := ⟨⟨_, bA ya.b _⟩, rfl⟩
      rw [hyb]
      clear hyb
      refine ⟨⟨_, rfl⟩, ?_⟩
      try simp only [Act.put, List.setIfInBounds_toArray, List.set_cons_zero, List.set_cons_succ]
      refine wpAnyG_one (i := 3) (by kernel_rfl) (by decide) ?_
      refine wpOp_plain rfl rfl ?_
      refine append_copyC (ops := #[]) rfl (.tmp 3) (.tmp 5) 22 rfl 39 i4 _ 3 24 Try.underlying22 I4.out Z4.out Z4'.out Z4''.out rfl (by decide) _ (by simp [Act.eval, Act.put]; rfl) p D.n c (by simp [Act.eval, Act.put]) (srcP (HI.out yb)) S1.out (by omega) ?_
      intro yP cP w' hcapP hcP
      have HCP := Lib.hid hcapP; clear hcapP
      obtain ⟨yc, rfl⟩ : ∃ zz : Ext w2, w' = zz.v := ⟨⟨_, bT yb.b hcP.below⟩, rfl⟩
      have HP := Lib.hid hcP
      clear hcP
      refine ⟨⟨_, rfl⟩, ?_⟩
      try simp only [Act.put, List.setIfInBounds_toArray, List.set_cons_zero, List.set_cons_succ]
      refine wpAnyG_one (i := 7) (by kernel_rfl) (by decide) ?_
      refine wpOp_plain rfl rfl ?_
      refine append_copyC (ops := #[]) rfl (.tmp 7) (.tmp 9) 23 rfl 3 i3 _ 1 8 Try.underlying23 I3.out Z3.out Z3'.out Z3''.out rfl (by decide) _ (by simp [Act.eval, Act.put]; rfl) q D.m d (by simp [Act.eval, Act.put]) (srcO (HI.out yc)) S2.out (by omega) ?_
      intro yO cO w' hcapO hcO
      have HCO := Lib.hid hcapO; clear hcapO
      obtain ⟨yd, rfl⟩ : ∃ zz : Ext w2, w' = zz.v := ⟨⟨_, bT yc.b hcO.below⟩, rfl⟩
      have HO := Lib.hid hcO
      clear hcO
      refine ⟨⟨_, rfl⟩, ?_⟩
      try simp only [Act.put, List.setIfInBounds_toArray, List.set_cons_zero, List.set_cons_succ]
      have HPO := Lib.hid (Below.refl yc.v.heap.size yc.v)
      refine wpAnyG_take (i := 8) (v := ?_) (by kernel_rfl) rfl (by kernel_rfl) (by kernel_rfl) (by kernel_rfl) (fun _ _ _ h => h) (Or.inl ⟨by rfl, ?_⟩) ⟨_, rfl⟩ ?_
      rotate_left
      · rintro wS ⟨yS, rfl⟩
        go_simp
        try (with_reducible rfl)
      try simp only [Act.put, List.setIfInBounds_toArray, List.set_cons_zero, List.set_cons_succ]
      refine wpAnyG_done (by kernel_rfl) (by kernel_rfl) (wpOp_plain rfl rfl ?_)
      go_simp
      go_wp2
      refine bodyPost_ret (v := .agg #[.slice yP D.n cP, .slice yO D.m cO]) (by simp [results, Try.f25, go_sem, G0, G1, Gz]) rfl ?_
      exact ⟨_, _, _, _, rfl, (copy_fin (HI.out yb) (HI.out yc) HP.out HO.out HPO.out HB.out yb.b yd.b HZ.out).2, own_fin HO.out HB.out yc.b HZ.out, HCP.out, HCO.out⟩
  · refine wpOp_plain rfl rfl ?_
    go_simp
    obtain ⟨ya, hya⟩ : ∃ zz : Ext w2, yr.v.alloc (Obj.cells #[] 3) = zz.v := ⟨⟨_, bA yr.b _⟩, rfl⟩
    rw [hya]
    clear hya
    refine ⟨⟨_, rfl⟩, ?_⟩
    try simp only [Act.put, List.setIfInBounds_toArray, List.set_cons_zero, List.set_cons_succ]
    refine wpAnyG_one (i := 0) (by kernel_rfl) (by decide) ?_
    refine wpOp_plain rfl rfl ?_
    go_simp
    obtain ⟨yb, hyb⟩ : ∃ zz : Ext w2, ya.v.alloc (Obj.cells #[] 39) = zz.v := ⟨⟨_, bA ya.b _⟩, rfl⟩
    rw [hyb]
    clear hyb
    refine ⟨⟨_, rfl⟩, ?_⟩
    try simp only [Act.put, List.setIfInBounds_toArray, List.set_cons_zero, List.set_cons_succ]
    refine wpAnyG_one (i := 3) (by kernel_rfl) (by decide) ?_
    refine wpOp_plain rfl rfl ?_
    refine append_copyC (ops := #[]) rfl (.tmp 3) (.tmp 5) 22 rfl 39 i4 _ 3 24 Try.underlying22 I4.out Z4.out Z4'.out Z4''.out rfl (by decide) _ (by simp [Act.eval, Act.put]; rfl) p D.n c (by simp [Act.eval, Act.put]) (srcP (HI.out yb)) S1.out (by omega) ?_
    intro yP cP w' hcapP hcP
    have HCP := Lib.hid hcapP; clear hcapP
    obtain ⟨yc, rfl⟩ : ∃ zz : Ext w2, w' = zz.v := ⟨⟨_, bT yb.b hcP.below⟩, rfl⟩
    have HP := Lib.hid hcP
    clear hcP
    refine ⟨⟨_, rfl⟩, ?_⟩
    try simp only [Act.put, List.setIfInBounds_toArray, List.set_cons_zero, List.set_cons_succ]
    refine wpAnyG_one (i := 7) (by kernel_rfl) (by decide) ?_
    refine wpOp_plain rfl rfl ?_
    refine append_copyC (ops := #[]) rfl (.tmp 7) (.tmp 9) 23 rfl 3 i3 _ 1 8 Try.underlying23 I3.out Z3.out Z3'.out Z3''.out rfl (by decide) _ (by simp [Act.eval, Act.put]; rfl) q D.m d (by simp [Act.eval, Act.put]) (srcO (HI.out yc)) S2.out (by omega) ?_
    intro yO cO w' hcapO hcO
    have HCO := Lib.hid hcapO; clear hcapO
    obtain ⟨yd, rfl⟩ : ∃ zz : Ext w2, w' = zz.v := ⟨⟨_, bT yc.b hcO.below⟩, rfl⟩
    have HO := Lib.hid hcO
    clear hcO
    refine ⟨⟨_, rfl⟩, ?_⟩
    try simp only [Act.put, List.setIfInBounds_toArray, List.set_cons_zero, List.set_cons_succ]
    have HPO := Lib.hid (Below.refl yc.v.heap.size yc.v)
    refine wpAnyG_take (i := 8) (v := ?_) (by kernel_rfl) rfl (by kernel_rfl) (by kernel_rfl) (by kernel_rfl) (fun _ _ _ h => h) (Or.inl ⟨by rfl, ?_⟩) ⟨_, rfl⟩ ?_
    rotate_left
    · rintro wS ⟨yS, rfl⟩
      go_simp
      try (with_reducible rfl)
    try simp only [Act.put, List.setIfInBounds_toArray, List.set_cons_zero, List.set_cons_succ]
    refine wpAnyG_done (by kernel_rfl) (by kernel_rfl) (wpOp_plain rfl rfl ?_)
    go_simp
    go_wp2
    refine bodyPost_ret (v := .agg #[.slice yP D.n cP, .slice yO D.m cO]) (by simp [results, Try.f25, go_sem, G0, G1, Gz]) rfl ?_
    exact ⟨_, _, _, _, rfl, (copy_fin (HI.out yb) (HI.out yc) HP.out HO.out HPO.out HB.out yb.b yd.b HZ.out).2, own_fin HO.out HB.out yc.b HZ.out, HCP.out, HCO.out⟩
end Go.Proofs.Ytkdlppekjjbgoaa
