/- Lines of an aqueduct: a copy, in the specification's words: new memory, apart. -/
import Derived.Test.YtkdlppekjjbgoaaC1

import Derived.Deep.RegionLawGrows

import Derived.Deep.AppendLies

import Derived.OwnWalk

set_option linter.unusedSimpArgs false

set_option linter.unusedVariables false

namespace Go.Proofs.Ytkdlppekjjbgoaa

open Go.RowKit

/-- what a copy by append to an empty literal leaves -/
structure CopiedF (w w' : World) (x : Option Addr) (n : Nat) (y : Option Addr) : Prop where
  below : Below w.heap.size w w'
  here : 0 < n → ∃ b, y = some ⟨b, 0, none⟩ ∧ w.heap.size ≤ b ∧ b < w'.heap.size ∧ ∀ a, x = some a → ∀ j, j < n → w'.cell? ⟨b, j, none⟩ = w.cell? (a.add j)
  open' : 0 < n → ∀ b, y = some ⟨b, 0, none⟩ → ∀ i, w'.frozen? ⟨b, i, none⟩ = false

theorem step_append_copyF {P : Program} {ops : Array Oper} {o : Oper} {a : Act} {w : World} {K : Act → World → Prop} {Q : Exit → Act → World → Prop} {E : Prop}
    (hg : o.guard = none) (s x : Operand) (t : TypeId) (hop : o.op = Op.call { callee := Callee.builtin Builtin.append, args := #[s, x], argTypes := #[t, t] })
    (e : TypeId) (i : TypeInfo) (z : Value) (size bytes : Nat) (h1 : P.underlying t = some (.slice e)) (h2 : P.info? e = some i) (h3 : i.zero = some z) (h4 : i.size = size) (h5 : i.bytes = bytes) (h6 : z.cells.size = size) (h7 : 0 < size)
    (g : Nat) (hs : a.eval s = .slice (some ⟨g, 0, none⟩) 0 0)
    (ad : Option Addr) (m c : Nat) (hx : a.eval x = .slice ad m c)
    (hc : 0 < m → ∃ b o, ad = some ⟨b, o, none⟩ ∧ ∀ j, j < m * size → ∃ u, w.cell? ⟨b, o + j, none⟩ = some u ∧ u.oneCell' = true)
    (b1 : m ≤ maxLen) (b2 : m * bytes ≤ 140737488355328)
    (hK : ∀ y c' w', CopiedF w w' ad (m * size) y → K (a.put o.dst (.slice y m c')) w') :
    if Region.wanted o (yielded ops a.tmps) = true then Oper.wp P o a w K Q else E := by
  by_cases hm : 0 < m
  · obtain ⟨b, of, rfl, hcell⟩ := hc hm
    have hch : ∃ f : Nat → Value, ∀ j, j < m * size → w.cell? ⟨b, of + j, none⟩ = some (f j) ∧ (f j).oneCell' = true :=
      ⟨fun j => (w.cell? ⟨b, of + j, none⟩).getD undef, fun j hj => by obtain ⟨u, hu, hu1⟩ := hcell j hj; simp [hu, hu1]⟩
    obtain ⟨f, hf⟩ := hch
    have hadd : ∀ (x o j : Nat), (⟨x, o, none⟩ : Addr).add j = ⟨x, o + j, none⟩ := fun x o j => by unfold Addr.add; split <;> simp_all
    refine step_append_grows hg s x t hop e i z size bytes h1 h2 h3 h4 h5 h6 h7 (some ⟨g, 0, none⟩) 0 0 [] hs (by simp) (by simp) (by simp) ⟨b, of, none⟩ m c ((List.range (m * size)).map f) hx (by simp) ?_ ?_ (by omega) (by omega) (by rw [Nat.zero_add]; exact b2) ?_
    · intro j u hu
      have hj : j < m * size := by have := (List.getElem?_eq_some_iff.1 hu).1; simpa using this
      simp [hj] at hu
      rw [hadd, (hf j hj).1, hu]
    · intro u hu
      simp at hu
      obtain ⟨j, hj, rfl⟩ := hu
      exact (hf j hj).2
    · intro v' w' hown hgrow
      have hpos : 0 < m * size := Nat.mul_pos hm h7
      rcases hown.2 with ⟨_, h0⟩ | ⟨gb, cap, cur, rfl, hb, hgb, hle, _, hsz, htk⟩
      · omega
      · simp only [Nat.zero_add, List.nil_append] at *
        refine hK _ _ _ ⟨⟨hgrow.os, hgrow.tape, hgrow.output, hgrow.size, fun k hk => hgrow.block k hk (by simp)⟩, fun _ => ⟨gb, rfl, hb, ?_, ?_⟩, fun _ b' hb' i => by simp only [Option.some.injEq, Addr.mk.injEq] at hb'; rw [← hb'.1]; simp [World.frozen?, hgb]⟩
        · exact (Array.getElem?_eq_some_iff.1 hgb).1
        · intro a' ha' j hj
          simp only [Option.some.injEq] at ha'
          subst ha'
          rw [hadd, (hf j hj).1, cell_of_row w' gb j cur e (0, 0) hgb]
          have h2 : (cur.toList.take (m * size))[j]? = some (f j) := by rw [htk]; simp [hj]
          rw [List.getElem?_take_of_lt hj] at h2
          simpa using h2
  · obtain rfl : m = 0 := by omega
    have hw : Region.wanted o (yielded ops a.tmps) = true := by simp [Region.wanted, hg]
    rw [if_pos hw]
    have hrun : (Builtin.append_ #[t, t] o.type #[.slice (some ⟨g, 0, none⟩) 0 0, .slice ad 0 c]).run P w = .ok (.slice (some ⟨g, 0, none⟩) 0 0) w := by
      cases ad <;> simp [Builtin.append_, run_underlying h1, sizeOf, typeInfo, h2, Builtin.lenOf, Builtin.firstCells, loadCells, loadCellsFrom, storeCells, Sem.run_bind]
    unfold Oper.wp
    simp [execOp, hop, resolve, invoke, builtin, hs, hx, hrun, Result.andThen]
    exact hK _ _ _ ⟨Below.refl _ _, fun h => by omega, fun h => by omega⟩


theorem append_copyE {P : Program} {ops : Array Oper} {o : Oper} {a : Act} {w : World} {K : Act → World → Prop} {Q : Exit → Act → World → Prop}
    (hg : o.guard = none) (s x : Operand) (t : TypeId) (hop : o.op = Op.call { callee := Callee.builtin Builtin.append, args := #[s, x], argTypes := #[t, t] })
    (e : TypeId) (i : TypeInfo) (z : Value) (size bytes : Nat) (h1 : P.underlying t = some (.slice e)) (h2 : P.info? e = some i) (h3 : i.zero = some z) (h4 : i.size = size) (h5 : i.bytes = bytes) (h6 : z.cells.size = size) (h7 : 0 < size)
    (g : Nat) (hs : a.eval s = .slice (some ⟨g, 0, none⟩) 0 0)
    (ad : Option Addr) (m c : Nat) (hx : a.eval x = .slice ad m c)
    (hc : 0 < m → ∃ b o, ad = some ⟨b, o, none⟩ ∧ ∀ j, j < m * size → ∃ u, w.cell? ⟨b, o + j, none⟩ = some u ∧ u.oneCell' = true)
    (b1 : m ≤ maxLen) (b2 : m * bytes ≤ 140737488355328)
    (hK : ∀ y c' w', CopiedF w w' ad (m * size) y → K (a.put o.dst (.slice y m c')) w') : Oper.wp P o a w K Q := by
  have h := step_append_copyF (ops := ops) (Q := Q) (E := False) hg s x t hop e i z size bytes h1 h2 h3 h4 h5 h6 h7 g hs ad m c hx hc b1 b2 hK
  rwa [if_pos (by simp [Region.wanted, hg])] at h
theorem srcP {w : World} {K : Nat} {D : Duct} {p q : Option Addr} (h : DuctIn w K D p q) : 0 < D.n → ∃ b o, p = some ⟨b, o, none⟩ ∧ ∀ j, j < D.n * 3 → ∃ u, w.cell? ⟨b, o + j, none⟩ = some u ∧ u.oneCell' = true := fun h0 => by
  obtain ⟨b, o, e, _, hc⟩ := h.pt h0
  refine ⟨b, o, e, fun j hj => ?_⟩
  have hk : j / 3 < D.n := by omega
  have e3 : j = j / 3 * 3 + j % 3 := by omega
  have hr : j % 3 < 3 := Nat.mod_lt _ (by omega)
  rcases (show j % 3 = 0 ∨ j % 3 = 1 ∨ j % 3 = 2 by omega) with h | h | h
  · exact ⟨_, by rw [e3, h]; exact hc.c0 _ hk, rfl⟩
  · exact ⟨_, by rw [e3, h, ← Nat.add_assoc]; exact hc.c1 _ hk, rfl⟩
  · exact ⟨_, by rw [e3, h, ← Nat.add_assoc]; exact hc.c2 _ hk, rfl⟩
theorem srcO {w : World} {K : Nat} {D : Duct} {p q : Option Addr} (h : DuctIn w K D p q) : 0 < D.m → ∃ b o, q = some ⟨b, o, none⟩ ∧ ∀ j, j < D.m * 1 → ∃ u, w.cell? ⟨b, o + j, none⟩ = some u ∧ u.oneCell' = true := fun h0 => by
  obtain ⟨b, o, e, _, hc⟩ := h.od h0
  exact ⟨b, o, e, fun j hj => ⟨_, hc j (by omega), rfl⟩⟩
theorem add_at'' (x o j : Nat) : (⟨x, o, none⟩ : Addr).add j = ⟨x, o + j, none⟩ := by unfold Addr.add; split <;> simp_all
/-- the line is a copy in new memory -/
structure CopyIn (w w' : World) (D : Duct) (p' q' : Option Addr) : Prop where
  below : Below w.heap.size w w'
  here : DuctIn w' w'.heap.size D p' q'
  own : 0 < D.n → ∃ g o, p' = some ⟨g, o, none⟩ ∧ w.heap.size ≤ g ∧ (∀ i, w'.frozen? ⟨g, i, none⟩ = false) ∧ (0 < D.m → ∀ g2 o2, q' = some ⟨g2, o2, none⟩ → g2 ≠ g)
theorem copy_fin {w w2 ws wo wl : World} {wp : World} {D : Duct} {p q yP yO : Option Addr} {bx : Nat} {u v : Value} (hs : DuctIn ws ws.heap.size D p q) (ho : DuctIn wo wo.heap.size D p q) (hP : CopiedF ws wp p (D.n * 3) yP) (hO : CopiedF wo wl q (D.m * 1) yO)
    (hpo : Below wp.heap.size wp wo) (hB : Below w.heap.size w w2) (hsb : Below w2.heap.size w2 ws) (hlb : Below w2.heap.size w2 wl) (hz : w.heap.size ≤ bx ∧ bx < w2.heap.size) :
    Ending.returned (.agg #[.slice yP D.n 0, .slice yO D.m 0]) = .returned (.agg #[.slice yP D.n 0, .slice yO D.m 0]) ∧ CopyIn w ((wl.setCell ⟨bx, 0, none⟩ u).setCell ⟨bx, 1, none⟩ v) D yP yO := by
  refine ⟨rfl, bS (bS (bT hB hlb) hz.1 _) hz.1 _, ?_, ?_⟩
  · have hne : ∀ b j, w2.heap.size ≤ b → ((wl.setCell ⟨bx, 0, none⟩ u).setCell ⟨bx, 1, none⟩ v).cell? ⟨b, j, none⟩ = wl.cell? ⟨b, j, none⟩ := fun b j hb => by
      rw [World.cell?_setCell_other _ _ _ _ (by simp; try omega), World.cell?_setCell_other _ _ _ _ (by simp; try omega)]
    refine ⟨fun h0 => ?_, fun h0 => ?_⟩
    · obtain ⟨b, o, e, hl, hc⟩ := hs.pt h0
      obtain ⟨g, e2, l1, l2, hx⟩ := hP.here (by omega)
      refine ⟨g, 0, e2, by have := hpo.size; have := hO.below.size; simp; omega, ?_⟩
      have hcell : ∀ j, j < D.n * 3 → ((wl.setCell ⟨bx, 0, none⟩ u).setCell ⟨bx, 1, none⟩ v).cell? ⟨g, j, none⟩ = ws.cell? ⟨b, o + j, none⟩ := fun j hj => by
        rw [hne g j (by have := hsb.size; omega), (bT hpo hO.below).cell (p := ⟨g, j, none⟩) l2, hx _ e j hj, add_at'']
      refine ⟨fun k hk => ?_, fun k hk => ?_, fun k hk => ?_⟩
      · rw [Nat.zero_add, hcell _ (by omega)]; exact hc.c0 k hk
      · rw [Nat.zero_add, hcell _ (by omega), ← Nat.add_assoc]; exact hc.c1 k hk
      · rw [Nat.zero_add, hcell _ (by omega), ← Nat.add_assoc]; exact hc.c2 k hk
    · obtain ⟨b, o, e, hl, hc⟩ := ho.od h0
      obtain ⟨g, e2, l1, l2, hx⟩ := hO.here (by omega)
      refine ⟨g, 0, e2, by simp; omega, fun k hk => ?_⟩
      rw [Nat.zero_add, hne g k (by have := hsb.size; have := hP.below.size; have := hpo.size; omega), hx _ e k (by omega), add_at'']
      exact hc k hk
  · intro h0
    obtain ⟨g, e2, l1, l2, _⟩ := hP.here (by omega)
    refine ⟨g, 0, e2, by have := hB.size; have := hsb.size; omega, fun i => ?_, fun hm g2 o2 eq => ?_⟩
    · have hf := hP.open' (by omega) g e2 i
      have := (bT hpo hO.below).frozen (p := ⟨g, i, none⟩) l2
      simpa using this.trans hf
    · obtain ⟨g', e3, m1, m2, _⟩ := hO.here (by omega)
      rw [e3] at eq
      simp only [Option.some.injEq, Addr.mk.injEq] at eq
      have := hpo.size
      omega
theorem infoI : (Try.prog.info? 3).map (fun i => (i.zero, i.size, i.bytes)) = some (some (.int .i64 0), 1, 8) := by kernel_rfl
theorem infoP : (Try.prog.info? 39).map (fun i => (i.zero, i.size, i.bytes)) = some (some (.agg #[.int .i64 0, .int .i64 0, .int .i64 0]), 3, 24) := by kernel_rfl
theorem box_nil (w : World) :
    ∃ (w1 : World) (x : Ext w1), w.alloc (Obj.cells #[Value.slice none 0 0, Value.slice none 0 0] 25) = x.v ∧ Below w.heap.size w w1 ∧ w1.heap.size = w.heap.size + 1 ∧
      (∀ x : Ext w1, x.v.cell? ⟨w.heap.size, 0, none⟩ = some (.slice none 0 0)) ∧ (∀ x : Ext w1, x.v.cell? ⟨w.heap.size, 1, none⟩ = some (.slice none 0 0)) ∧ (∀ (x : Ext w1) i, x.v.frozen? ⟨w.heap.size, i, none⟩ = false) := by
  have h0 : (w.alloc (Obj.cells #[Value.slice none 0 0, Value.slice none 0 0] 25)).cell? ⟨w.heap.size, 0, none⟩ = some (.slice none 0 0) := by go_simp
  have h1 : (w.alloc (Obj.cells #[Value.slice none 0 0, Value.slice none 0 0] 25)).cell? ⟨w.heap.size, 1, none⟩ = some (.slice none 0 0) := by go_simp
  have h2 : ∀ i, (w.alloc (Obj.cells #[Value.slice none 0 0, Value.slice none 0 0] 25)).frozen? ⟨w.heap.size, i, none⟩ = false := fun i => by go_simp
  exact ⟨_, ⟨_, Below.refl _ _⟩, rfl, bA (Below.refl _ _) _, by simp, fun x => (x.b.cell (p := ⟨w.heap.size, 0, none⟩) (by simp)).trans h0, fun x => (x.b.cell (p := ⟨w.heap.size, 1, none⟩) (by simp)).trans h1, fun x i => (x.b.frozen (p := ⟨w.heap.size, i, none⟩) (by simp)).trans (h2 i)⟩
set_option maxRecDepth 100000 in
set_option maxHeartbeats 4000000 in
theorem copy_any (D : Duct) (p q : Option Addr) (c d : Nat) (w : World) (hn : D.n ≤ 40) (hm : D.m ≤ 40) (hi : DuctIn w w.heap.size D p q) :
    Calls Try.prog 25 #[.agg #[.slice p D.n c, .slice q D.m d]] w fun e w' => ∃ p' c' q' d', e = .returned (.agg #[.slice p' D.n c', .slice q' D.m d']) ∧ CopyIn w w' D p' q' := by
  obtain ⟨i3, hi3, hz3, hz3', hz3''⟩ := info_parts infoI
  obtain ⟨i4, hi4, hz4, hz4', hz4''⟩ := info_parts infoP
  have S1 := Lib.hid (show D.n ≤ maxLen by unfold maxLen; omega); have S2 := Lib.hid (show D.m ≤ maxLen by unfold maxLen; omega)
  have I3 := Lib.hid hi3; have Z3 := Lib.hid hz3; have Z3' := Lib.hid hz3'; have Z3'' := Lib.hid hz3''; clear hi3 hz3 hz3' hz3''
  have I4 := Lib.hid hi4; have Z4 := Lib.hid hz4; have Z4' := Lib.hid hz4'; have Z4'' := Lib.hid hz4''; clear hi4 hz4 hz4' hz4''
  obtain ⟨w1, x1, hw1, hb1, hz1, F0, F1⟩ := box_line w p q D.n D.m c d
  obtain ⟨w2, x2, hw2, hb2, hz2, G0, G1, Gz⟩ := box_nil x1.v
  have HB := Lib.hid (bT (bT hb1 x1.b) hb2)
  have HI : Hid (∀ x : Ext w2, DuctIn x.v x.v.heap.size D p q) := fun x => (hi.bel (bT hb1 x1.b)).bel (bT hb2 x.b)
  have HZ : Hid (w.heap.size ≤ x1.v.heap.size ∧ x1.v.heap.size < w2.heap.size) := by have := hb1.size; have := x1.b.size; exact ⟨by omega, by omega⟩
  replace F0 : ∀ y : Ext w2, y.v.cell? ⟨w.heap.size, 0, none⟩ = some (.slice p D.n c) := fun y => F0 (y.up (bT x1.b hb2))
  replace F1 : ∀ y : Ext w2, y.v.cell? ⟨w.heap.size, 1, none⟩ = some (.slice q D.m d) := fun y => F1 (y.up (bT x1.b hb2))
  clear hb1 hz1 hi hb2 hz2
  go_enter Try.func25, Try.ntmps25
  go_wp2
  refine wp_region_lastE 9 (by kernel_rfl) rfl (fun yr => ?_)
  refine wpAnyG_take (i := 1) (v := ?_) (by kernel_rfl) rfl (by kernel_rfl) (by kernel_rfl) (by kernel_rfl) (fun _ _ _ h => h) (Or.inl ⟨by rfl, ?_⟩) ⟨_, rfl⟩ ?_
  rotate_left
  · rintro wS ⟨yS, rfl⟩
    go_simp
    try (with_reducible rfl)
  try simp only [Act.put, List.setIfInBounds_toArray, List.set_cons_zero, List.set_cons_succ]
  refine wpAnyG_take (i := 2) (v := ?_) (by kernel_rfl) rfl (by kernel_rfl) (by kernel_rfl) (by kernel_rfl) (fun _ _ _ h => h) (Or.inl ⟨by rfl, ?_⟩) ⟨_, rfl⟩ ?_
  rotate_left
  · rintro wS ⟨yS, rfl⟩
    go_simp
    try (with_reducible rfl)
  try simp only [Act.put, List.setIfInBounds_toArray, List.set_cons_zero, List.set_cons_succ]
  refine wpAnyG_take (i := 5) (v := ?_) (by kernel_rfl) rfl (by kernel_rfl) (by kernel_rfl) (by kernel_rfl) (fun _ _ _ h => h) (Or.inl ⟨by rfl, ?_⟩) ⟨_, rfl⟩ ?_
  rotate_left
  · rintro wS ⟨yS, rfl⟩
    go_simp
    try (with_reducible rfl)
  try simp only [Act.put, List.setIfInBounds_toArray, List.set_cons_zero, List.set_cons_succ]
  refine wpAnyG_take (i := 6) (v := ?_) (by kernel_rfl) rfl (by kernel_rfl) (by kernel_rfl) (by kernel_rfl) (fun _ _ _ h => h) (Or.inl ⟨by rfl, ?_⟩) ⟨_, rfl⟩ ?_
  rotate_left
  · rintro wS ⟨yS, rfl⟩
    go_simp
    try (with_reducible rfl)
  try simp only [Act.put, List.setIfInBounds_toArray, List.set_cons_zero, List.set_cons_succ]
  refine wpAnyG_two (i := 0) (j := 4) (by kernel_rfl) (by decide) (by decide) ?_ ?_
  · refine wpOp_plain rfl rfl ?_
    go_simp
    obtain ⟨ya, hya⟩ : ∃ zz : Ext w2, yr.v.alloc (Obj.cells #[] 39) = zz.v := ⟨⟨_, bA yr.b _⟩, rfl⟩
    rw [hya]
    clear hya
    refine ⟨⟨_, rfl⟩, ?_⟩
    try simp only [Act.put, List.setIfInBounds_toArray, List.set_cons_zero, List.set_cons_succ]
    refine wpAnyG_two (i := 3) (j := 4) (by kernel_rfl) (by decide) (by decide) ?_ ?_
    · refine wpOp_plain rfl rfl ?_
      refine append_copyE (ops := #[]) rfl (.tmp 3) (.tmp 5) 22 rfl 39 i4 _ 3 24 Try.underlying22 I4.out Z4.out Z4'.out Z4''.out rfl (by decide) _ (by simp [Act.eval, Act.put]; rfl) p D.n c (by simp [Act.eval, Act.put]) (srcP (HI.out ya)) S1.out (by omega) ?_
      intro yP cP w' hcP
      obtain ⟨yb, rfl⟩ : ∃ zz : Ext w2, w' = zz.v := ⟨⟨_, bT ya.b hcP.below⟩, rfl⟩
      have HP := Lib.hid hcP
      clear hcP
      refine ⟨⟨_, rfl⟩, ?_⟩
      try simp only [Act.put, List.setIfInBounds_toArray, List.set_cons_zero, List.set_cons_succ]
      refine wpAnyG_one (i := 4) (by kernel_rfl) (by decide) ?_
      refine wpOp_plain rfl rfl ?_
      go_simp
      obtain ⟨yc, hyc, hPO⟩ : ∃ zz : Ext w2, yb.v.alloc (Obj.cells #[] 3) = zz.v ∧ Below yb.v.heap.size yb.v zz.v := ⟨⟨_, bA yb.b _⟩, rfl, bA (Below.refl _ _) _⟩
      have HPO := Lib.hid hPO
      clear hPO
      rw [hyc]
      clear hyc
      refine ⟨⟨_, rfl⟩, ?_⟩
      try simp only [Act.put, List.setIfInBounds_toArray, List.set_cons_zero, List.set_cons_succ]
      refine wpAnyG_one (i := 7) (by kernel_rfl) (by decide) ?_
      refine wpOp_plain rfl rfl ?_
      refine append_copyE (ops := #[]) rfl (.tmp 7) (.tmp 9) 23 rfl 3 i3 _ 1 8 Try.underlying23 I3.out Z3.out Z3'.out Z3''.out rfl (by decide) _ (by simp [Act.eval, Act.put]; rfl) q D.m d (by simp [Act.eval, Act.put]) (srcO (HI.out yc)) S2.out (by omega) ?_
      intro yO cO w' hcO
      obtain ⟨yd, rfl⟩ : ∃ zz : Ext w2, w' = zz.v := ⟨⟨_, bT yc.b hcO.below⟩, rfl⟩
      have HO := Lib.hid hcO
      clear hcO
      refine ⟨⟨_, rfl⟩, ?_⟩
      try simp only [Act.put, List.setIfInBounds_toArray, List.set_cons_zero, List.set_cons_succ]
      refine wpAnyG_take (i := 8) (v := ?_) (by kernel_rfl) rfl (by kernel_rfl) (by kernel_rfl) (by kernel_rfl) (fun _ _ _ h => h) (Or.inl ⟨by rfl, ?_⟩) ⟨_, rfl⟩ ?_
      rotate_left
      · rintro wS ⟨yS, rfl⟩
        go_simp
        try (with_reducible rfl)
      try simp only [Act.put, List.setIfInBounds_toArray, List.set_cons_zero, List.set_cons_succ]
      refine wpAnyG_done (by kernel_rfl) (by kernel_rfl) (wpOp_plain rfl rfl ?_)
      go_simp
      go_wp2
      refine bodyPost_ret (v := .agg #[.slice yP D.n cP, .slice yO D.m cO]) (by simp [results, Try.f25, go_sem, G0, G1, Gz]) rfl ?_
      exact ⟨_, _, _, _, rfl, (copy_fin (HI.out ya) (HI.out yc) HP.out HO.out HPO.out HB.out ya.b yd.b HZ.out).2⟩
    · refine wpOp_plain rfl rfl ?_
      go_simp
      obtain ⟨yb, hyb⟩ : ∃ zz : Ext w2, ya.v.alloc (Obj.cells #[] 3) = zz.v := ⟨⟨_, bA ya.b _⟩, rfl⟩
      rw [hyb]
      clear hyb
      refine ⟨⟨_, rfl⟩, ?_⟩
      try simp only [Act.put, List.setIfInBounds_toArray, List.set_cons_zero, List.set_cons_succ]
      refine wpAnyG_one (i := 3) (by kernel_rfl) (by decide) ?_
      refine wpOp_plain rfl rfl ?_
      refine append_copyE (ops := #[]) rfl (.tmp 3) (.tmp 5) 22 rfl 39 i4 _ 3 24 Try.underlying22 I4.out Z4.out Z4'.out Z4''.out rfl (by decide) _ (by simp [Act.eval, Act.put]; rfl) p D.n c (by simp [Act.eval, Act.put]) (srcP (HI.out yb)) S1.out (by omega) ?_
      intro yP cP w' hcP
      obtain ⟨yc, rfl⟩ : ∃ zz : Ext w2, w' = zz.v := ⟨⟨_, bT yb.b hcP.below⟩, rfl⟩
      have HP := Lib.hid hcP
      clear hcP
      refine ⟨⟨_, rfl⟩, ?_⟩
      try simp only [Act.put, List.setIfInBounds_toArray, List.set_cons_zero, List.set_cons_succ]
      refine wpAnyG_one (i := 7) (by kernel_rfl) (by decide) ?_
      refine wpOp_plain rfl rfl ?_
      refine append_copyE (ops := #[]) rfl (.tmp 7) (.tmp 9) 23 rfl 3 i3 _ 1 8 Try.underlying23 I3.out Z3.out Z3'.out Z3''.out rfl (by decide) _ (by simp [Act.eval, Act.put]; rfl) q D.m d (by simp [Act.eval, Act.put]) (srcO (HI.out yc)) S2.out (by omega) ?_
      intro yO cO w' hcO
      obtain ⟨yd, rfl⟩ : ∃ zz : Ext w2, w' = zz.v := ⟨⟨_, bT yc.b hcO.below⟩, rfl⟩
      have HO := Lib.hid hcO
      clear hcO
      refine ⟨⟨_, rfl⟩, ?_⟩
      try simp only [Act.put, List.setIfInBounds_toArray, List.set_cons_zero, List.set_cons_succ]
      have HPO := Lib.hid (Below.refl yc.v.heap.size yc.v)
      refine wpAnyG_take (i := 8) (v := ?_) (by kernel_rfl) rfl (by kernel_rfl) (by kernel_rfl) (by kernel_rfl) (fun _ _ _ h => h) (Or.inl ⟨by rfl, ?_⟩) ⟨_, rfl⟩ ?_
      rotate_left
      · rintro wS ⟨yS, rfl⟩
        go_simp
        try (with_reducible rfl)
      try simp only [Act.put, List.setIfInBounds_toArray, List.set_cons_zero, List.set_cons_succ]
      refine wpAnyG_done (by kernel_rfl) (by kernel_rfl) (wpOp_plain rfl rfl ?_)
      go_simp
      go_wp2
      refine bodyPost_ret (v := .agg #[.slice yP D.n cP, .slice yO D.m cO]) (by simp [results, Try.f25, go_sem, G0, G1, Gz]) rfl ?_
      exact ⟨_, _, _, _, rfl, (copy_fin (HI.out yb) (HI.out yc) HP.out HO.out HPO.out HB.out yb.b yd.b HZ.out).2⟩
  · refine wpOp_plain rfl rfl ?_
    go_simp
    obtain ⟨ya, hya⟩ : ∃ zz : Ext w2, yr.v.alloc (Obj.cells #[] 3) = zz.v := ⟨⟨_, bA yr.b _⟩, rfl⟩
    rw [hya]
    clear hya
    refine ⟨⟨_, rfl⟩, ?_⟩
    try simp only [Act.put, List.setIfInBounds_toArray, List.set_cons_zero, List.set_cons_succ]
    refine wpAnyG_one (i := 0) (by kernel_rfl) (by decide) ?_
    refine wpOp_plain rfl rfl ?_
    go_simp
    obtain ⟨yb, hyb⟩ : ∃ zz : Ext w2, ya.v.alloc (Obj.cells #[] 39) = zz.v := ⟨⟨_, bA ya.b _⟩, rfl⟩
    rw [hyb]
    clear hyb
    refine ⟨⟨_, rfl⟩, ?_⟩
    try simp only [Act.put, List.setIfInBounds_toArray, List.set_cons_zero, List.set_cons_succ]
    refine wpAnyG_one (i := 3) (by kernel_rfl) (by decide) ?_
    refine wpOp_plain rfl rfl ?_
    refine append_copyE (ops := #[]) rfl (.tmp 3) (.tmp 5) 22 rfl 39 i4 _ 3 24 Try.underlying22 I4.out Z4.out Z4'.out Z4''.out rfl (by decide) _ (by simp [Act.eval, Act.put]; rfl) p D.n c (by simp [Act.eval, Act.put]) (srcP (HI.out yb)) S1.out (by omega) ?_
    intro yP cP w' hcP
    obtain ⟨yc, rfl⟩ : ∃ zz : Ext w2, w' = zz.v := ⟨⟨_, bT yb.b hcP.below⟩, rfl⟩
    have HP := Lib.hid hcP
    clear hcP
    refine ⟨⟨_, rfl⟩, ?_⟩
    try simp only [Act.put, List.setIfInBounds_toArray, List.set_cons_zero, List.set_cons_succ]
    refine wpAnyG_one (i := 7) (by kernel_rfl) (by decide) ?_
    refine wpOp_plain rfl rfl ?_
    refine append_copyE (ops := #[]) rfl (.tmp 7) (.tmp 9) 23 rfl 3 i3 _ 1 8 Try.underlying23 I3.out Z3.out Z3'.out Z3''.out rfl (by decide) _ (by simp [Act.eval, Act.put]; rfl) q D.m d (by simp [Act.eval, Act.put]) (srcO (HI.out yc)) S2.out (by omega) ?_
    intro yO cO w' hcO
    obtain ⟨yd, rfl⟩ : ∃ zz : Ext w2, w' = zz.v := ⟨⟨_, bT yc.b hcO.below⟩, rfl⟩
    have HO := Lib.hid hcO
    clear hcO
    refine ⟨⟨_, rfl⟩, ?_⟩
    try simp only [Act.put, List.setIfInBounds_toArray, List.set_cons_zero, List.set_cons_succ]
    have HPO := Lib.hid (Below.refl yc.v.heap.size yc.v)
    refine wpAnyG_take (i := 8) (v := ?_) (by kernel_rfl) rfl (by kernel_rfl) (by kernel_rfl) (by kernel_rfl) (fun _ _ _ h => h) (Or.inl ⟨by rfl, ?_⟩) ⟨_, rfl⟩ ?_
    rotate_left
    · rintro wS ⟨yS, rfl⟩
      go_simp
      try (with_reducible rfl)
    try simp only [Act.put, List.setIfInBounds_toArray, List.set_cons_zero, List.set_cons_succ]
    refine wpAnyG_done (by kernel_rfl) (by kernel_rfl) (wpOp_plain rfl rfl ?_)
    go_simp
    go_wp2
    refine bodyPost_ret (v := .agg #[.slice yP D.n cP, .slice yO D.m cO]) (by simp [results, Try.f25, go_sem, G0, G1, Gz]) rfl ?_
    exact ⟨_, _, _, _, rfl, (copy_fin (HI.out yb) (HI.out yc) HP.out HO.out HPO.out HB.out yb.b yd.b HZ.out).2⟩
end Go.Proofs.Ytkdlppekjjbgoaa
