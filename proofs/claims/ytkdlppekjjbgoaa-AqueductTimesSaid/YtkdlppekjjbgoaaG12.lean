/- A line with a free point, of the program and of the specification; Free. -/
import Derived.Test.YtkdlppekjjbgoaaG11

import Derived.Test.YtkdlppekjjbgoaaG8

import Derived.Test.YtkdlppekjjbgoaaG7

set_option linter.unusedSimpArgs false

set_option linter.unusedVariables false

namespace Go.Proofs.Ytkdlppekjjbgoaa

open Go.RowKit

theorem DuctIn.set2 {W : World} {K : Nat} {D : Duct} {p q : Option Addr} {bx : Nat} {u v : Value} (h : DuctIn W K D p q) (hp : 0 < D.n → ∀ g o, p = some ⟨g, o, none⟩ → g ≠ bx) (hq : 0 < D.m → ∀ g o, q = some ⟨g, o, none⟩ → g ≠ bx) :
    DuctIn ((W.setCell ⟨bx, 0, none⟩ u).setCell ⟨bx, 1, none⟩ v) K D p q := by
  refine ⟨fun h0 => ?_, fun h0 => ?_⟩
  · obtain ⟨b, o, e, hl, hc⟩ := h.pt h0
    have hne := hp h0 b o e
    refine ⟨b, o, e, hl, fun i hi => ?_, fun i hi => ?_, fun i hi => ?_⟩
    · rw [setTwo_else (o := 0) (by simp; try omega) (by simp; try omega)]; exact hc.c0 i hi
    · rw [setTwo_else (o := 0) (by simp; try omega) (by simp; try omega)]; exact hc.c1 i hi
    · rw [setTwo_else (o := 0) (by simp; try omega) (by simp; try omega)]; exact hc.c2 i hi
  · obtain ⟨b, o, e, hl, hc⟩ := h.od h0
    have hne := hq h0 b o e
    exact ⟨b, o, e, hl, fun i hi => by rw [setTwo_else (o := 0) (by simp; try omega) (by simp; try omega)]; exact hc i hi⟩
theorem DuctIn.pb {W : World} {K : Nat} {D : Duct} {g o : Nat} {q : Option Addr} (h : DuctIn W K D (some ⟨g, o, none⟩) q) (hn : 0 < D.n) : g < K := by
  obtain ⟨b, o', e, hl, _⟩ := h.pt hn; cases e; exact hl
theorem DuctIn.qb {W : World} {K : Nat} {D : Duct} {g o : Nat} {p : Option Addr} (h : DuctIn W K D p (some ⟨g, o, none⟩)) (hm : 0 < D.m) : g < K := by
  obtain ⟨b, o', e, hl, _⟩ := h.od hm; cases e; exact hl
theorem fz_line (w : World) (p q : Option Addr) (n m c d : Nat) : ∀ i, (w.alloc (Obj.cells #[Value.slice p n c, Value.slice q m d] 25)).frozen? ⟨w.heap.size, i, none⟩ = false := fun i => by go_simp
theorem wpList_append_copyC {P : Program} {ops : Array Oper} {rest : List Oper} {o : Oper} {a : Act} {w : World} {Q : Exit → Act → World → Prop}
    (hg : o.guard = none) (s x : Operand) (t : TypeId) (hop : o.op = Op.call { callee := Callee.builtin Builtin.append, args := #[s, x], argTypes := #[t, t] })
    (e : TypeId) (i : TypeInfo) (z : Value) (size bytes : Nat) (h1 : P.underlying t = some (.slice e)) (h2 : P.info? e = some i) (h3 : i.zero = some z) (h4 : i.size = size) (h5 : i.bytes = bytes) (h6 : z.cells.size = size) (h7 : 0 < size)
    (g : Nat) (hs : a.eval s = .slice (some ⟨g, 0, none⟩) 0 0)
    (ad : Option Addr) (m c : Nat) (hx : a.eval x = .slice ad m c)
    (hc : 0 < m → ∃ b o, ad = some ⟨b, o, none⟩ ∧ ∀ j, j < m * size → ∃ u, w.cell? ⟨b, o + j, none⟩ = some u ∧ u.oneCell' = true)
    (b1 : m ≤ maxLen) (b2 : m * bytes ≤ 140737488355328)
    (hK : ∀ y c' w', m ≤ c' → CopiedF w w' ad (m * size) y → wpList P ops Q rest (a.put o.dst (.slice y m c')) w') : wpList P ops Q (o :: rest) a w :=
  wpList_plain hg fun K hK' => append_copyC (ops := #[]) hg s x t hop e i z size bytes h1 h2 h3 h4 h5 h6 h7 g hs ad m c hx hc b1 b2 fun y c' w' hcap h => hK' _ _ (hK y c' w' hcap h)
set_option maxRecDepth 100000 in
set_option maxHeartbeats 2000000 in
theorem clonePt_any (D : Duct) (b o : Nat) (q : Option Addr) (c : Nat) (w : World) (hn : D.n ≤ 40) (hn0 : 0 < D.n) (hi : DuctIn w w.heap.size D (some ⟨b, o, none⟩) q) :
    Calls Try.prog 86 #[.slice (some ⟨b, o, none⟩) D.n c] w fun e w' => ∃ g go c', e = .returned (.slice (some ⟨g, go, none⟩) D.n c') ∧ Below w.heap.size w w' ∧ w.heap.size ≤ g ∧ g < w'.heap.size ∧ PtAt w' g go D ∧ ∀ i, w'.frozen? ⟨g, i, none⟩ = false := by
  obtain ⟨i4, hi4, hz4, hz4', hz4''⟩ := info_parts infoP
  have I4 := Lib.hid hi4; have Z4 := Lib.hid hz4; have Z4' := Lib.hid hz4'; have Z4'' := Lib.hid hz4''; clear hi4 hz4 hz4' hz4''
  have S1 := Lib.hid (show D.n ≤ maxLen by unfold maxLen; omega)
  obtain ⟨w1, hw1⟩ : ∃ w1, w.alloc (Obj.cells #[] 39) = w1 := ⟨_, rfl⟩
  have hb1 : Below w.heap.size w w1 := by rw [← hw1]; exact bA (Below.refl _ _) _
  have HB := Lib.hid hb1
  have HI := Lib.hid (hi.bel hb1)
  have HN0 := Lib.hid hn0
  clear hb1 hi hn0
  have q26 : ∀ (w : World) (a : Option Addr) (n c n' c' : Nat), (binOp .eql 22 (.slice a n c) (.slice none n' c')).run Try.prog w = .ok (.bool a.isNone) w := fun w a n c n' c' => Lib.run_eql_slice_nil w _ _ a n c n' c' Try.underlying22
  go_enter Try.func86, Try.ntmps86
  go_wp2_with (at_builtin; refine wpList_append_copyC rfl (.tmp 5) (.tmp 6) 22 rfl 39 i4 _ 3 24 Try.underlying22 I4.out Z4.out Z4'.out Z4''.out rfl (by decide) _ (by simp [Act.eval, Act.put]; rfl) (some ⟨b, o, none⟩) D.n c (by simp [Act.eval, Act.put]) (srcP HI.out) S1.out (by omega) ?_)
  intro y c' w' _ hc
  have HC := Lib.hid hc; clear hc
  go_wp2
  go_ret
  obtain ⟨g, rfl, g1, g2, g3⟩ := HC.out.here (by have := HN0.out; omega)
  obtain ⟨b', o', e', hl, hp⟩ := HI.out.pt HN0.out
  cases e'
  have hcell : ∀ j, j < D.n * 3 → w'.cell? ⟨g, j, none⟩ = w1.cell? ⟨b, o + j, none⟩ := fun j hj => by rw [g3 _ rfl j hj, add_at'']
  refine ⟨g, 0, c', rfl, bT HB.out HC.out.below, Nat.le_trans HB.out.size g1, g2, ⟨fun k hk => ?_, fun k hk => ?_, fun k hk => ?_⟩, HC.out.open' (by have := HN0.out; omega) g rfl⟩
  · rw [Nat.zero_add, hcell _ (by omega)]; exact hp.c0 k hk
  · rw [Nat.zero_add, hcell _ (by omega), ← Nat.add_assoc]; exact hp.c1 k hk
  · rw [Nat.zero_add, hcell _ (by omega), ← Nat.add_assoc]; exact hp.c2 k hk
set_option maxRecDepth 100000 in
set_option maxHeartbeats 4000000 in
theorem withFree_any (D : Duct) (p q : Option Addr) (c d : Nat) (k : Nat) (w : World) (hn : D.n ≤ 40) (hm : D.m ≤ 40) (hk : k < D.n) (hi : DuctIn w w.heap.size D p q) :
    Calls Try.prog 72 #[.agg #[.slice p D.n c, .slice q D.m d], .int .i64 k] w fun e w' => ∃ p' c', e = .returned (.agg #[.slice p' D.n c', .slice q D.m d]) ∧ Below w.heap.size w w' ∧ DuctIn w' w'.heap.size (frD D k) p' q := by
  obtain ⟨pb, po, rfl, _, _⟩ := hi.pt (by omega)
  obtain ⟨w1, x1, hw1, hb1, hz1, F0, F1⟩ := box_line w (some ⟨pb, po, none⟩) q D.n D.m c d
  have Fz0 := fz_line w (some ⟨pb, po, none⟩) q D.n D.m c d
  rw [hw1] at Fz0
  have hxs : w.heap.size < x1.v.heap.size := by rw [← hw1]; simp
  obtain ⟨w2, x2, hw2, hb2, hz2, G0, G1, Gz⟩ := box_nil x1.v
  have HB := Lib.hid (bT (bT hb1 x1.b) hb2)
  have HI : Hid (∀ x : Ext w2, DuctIn x.v x.v.heap.size D (some ⟨pb, po, none⟩) q) := fun x => (hi.bel (bT hb1 x1.b)).bel (bT hb2 x.b)
  have HQ : Hid (0 < D.m → ∀ g o, q = some ⟨g, o, none⟩ → g < w.heap.size) := fun h g o e => by subst e; exact hi.qb h
  have HZ : Hid (w.heap.size < x1.v.heap.size ∧ x1.v.heap.size < w2.heap.size) := ⟨hxs, by omega⟩
  replace F0 : ∀ y : Ext w2, y.v.cell? ⟨w.heap.size, 0, none⟩ = some (.slice (some ⟨pb, po, none⟩) D.n c) := fun y => F0 (y.up (bT x1.b hb2))
  replace F1 : ∀ y : Ext w2, y.v.cell? ⟨w.heap.size, 1, none⟩ = some (.slice q D.m d) := fun y => F1 (y.up (bT x1.b hb2))
  have Fz : ∀ (y : Ext w2) i, y.v.frozen? ⟨w.heap.size, i, none⟩ = false := fun y i => ((bT hb2 y.b).frozen (p := ⟨w.heap.size, i, none⟩) hxs).trans (Fz0 i)
  have j2 : (k : Int) < (D.n : Int) := by omega
  have HK := Lib.hid hk
  clear hb1 hz1 hi hb2 hz2 hk Fz0 hxs
  go_enter Try.func72, Try.ntmps72
  go_wp2_with fail
  refine (clonePt_any D pb po q c _ hn (by have := HK.out; omega) (HI.out _)).mono ?_
  rintro e w' ⟨g, go, c', rfl, hcb, hg1, hg2, hpt, hfz⟩
  obtain ⟨y3, rfl⟩ : ∃ z : Ext w2, w' = z.v := ⟨⟨w', bT x2.b hcb⟩, rfl⟩
  have HG : Hid (w2.heap.size ≤ g) := Nat.le_trans x2.b.size hg1
  have HGL := Lib.hid hg2; have HPT := Lib.hid hpt; have HFZ := Lib.hid hfz
  clear hcb hg1 hg2 hpt hfz hw1 hw2
  have A0 := F0 y3; have A1 := F1 y3; have Az := Fz y3
  obtain ⟨w5, x5, e5, hw5⟩ : ∃ (w5 : World) (x5 : Ext w5), y3.v.setCell ⟨w.heap.size, 0, none⟩ (.slice (some ⟨g, go, none⟩) D.n c') = x5.v ∧ w5 = y3.v.setCell ⟨w.heap.size, 0, none⟩ (.slice (some ⟨g, go, none⟩) D.n c') := ⟨_, ⟨_, Below.refl _ _⟩, rfl, rfl⟩
  have hk5 : ∀ (x : Addr), x ≠ ⟨w.heap.size, 0, none⟩ → w5.cell? x = y3.v.cell? x := fun x h => by rw [hw5]; exact cell_else h
  have hz5 : w5.heap.size = y3.v.heap.size := by rw [hw5]; simp
  have hf5 : ∀ x, w5.frozen? x = y3.v.frozen? x := fun x => by rw [hw5]; simp
  have h2y := y3.b.size
  have M0 : ∀ z : Ext w5, z.v.cell? ⟨w.heap.size, 0, none⟩ = some (.slice (some ⟨g, go, none⟩) D.n c') := fun z => (z.b.cell (by have := HZ.out; show w.heap.size < _; omega)).trans (by rw [hw5]; exact cell_same A0)
  have M1 : ∀ z : Ext w5, z.v.cell? ⟨w.heap.size, 1, none⟩ = some (.slice q D.m d) := fun z => (z.b.cell (by have := HZ.out; show w.heap.size < _; omega)).trans ((hk5 _ (by simp)).trans A1)
  have N0 : ∀ z : Ext w5, z.v.cell? ⟨x1.v.heap.size, 0, none⟩ = some (.slice none 0 0) := fun z => (z.b.cell (by have := HZ.out; show x1.v.heap.size < _; omega)).trans ((hk5 _ (by have := HZ.out; simp; try omega)).trans (G0 y3))
  have N1 : ∀ z : Ext w5, z.v.cell? ⟨x1.v.heap.size, 1, none⟩ = some (.slice none 0 0) := fun z => (z.b.cell (by have := HZ.out; show x1.v.heap.size < _; omega)).trans ((hk5 _ (by have := HZ.out; simp; try omega)).trans (G1 y3))
  have Nz : ∀ (z : Ext w5) i, z.v.frozen? ⟨x1.v.heap.size, i, none⟩ = false := fun z i => (z.b.frozen (p := ⟨x1.v.heap.size, i, none⟩) (by have := HZ.out; show x1.v.heap.size < _; omega)).trans ((hf5 _).trans (Gz y3 i))
  have hgl5 : g < w5.heap.size := by have := HGL.out; omega
  have hgw : g ≠ w.heap.size := by have := HG.out; have := HZ.out; omega
  have P5 : PtAt w5 g go D := ⟨fun i hi => (hk5 _ (by simp [hgw])).trans (HPT.out.c0 i hi), fun i hi => (hk5 _ (by simp [hgw])).trans (HPT.out.c1 i hi), fun i hi => (hk5 _ (by simp [hgw])).trans (HPT.out.c2 i hi)⟩
  have O5 : NumIn w5 w5.heap.size D.m D.od q := fun h0 => by
    obtain ⟨b, o, e, hl, hc⟩ := (HI.out y3).od h0
    have := HQ.out h0 b o e
    exact ⟨b, o, e, by omega, fun i hi => (hk5 _ (by simp; try omega)).trans (hc i hi)⟩
  have D5 : DuctIn w5 w5.heap.size D (some ⟨g, go, none⟩) q := ⟨fun _ => ⟨g, go, rfl, hgl5, P5⟩, O5⟩
  have HD5 := Lib.hid D5; have HGL5 := Lib.hid hgl5
  have FZ : ∀ (z : Ext w5) i, z.v.frozen? ⟨g, i, none⟩ = false := fun z i => (z.b.frozen (p := ⟨g, i, none⟩) hgl5).trans ((hf5 _).trans (HFZ.out i))
  have E2 : ∀ z : Ext w5, z.v.cell? ⟨g, go + k * 3 + 2, none⟩ = some (.int .i64 (D.co k)) := fun z => (HD5.out.bel z.b).co' HK.out
  have HB5 : Hid (Below w.heap.size w w5) := by rw [hw5]; exact bS (bT HB.out y3.b) (Nat.le_refl _) _
  have HS5 : Hid (w2.heap.size ≤ w5.heap.size) := by rw [hz5]; exact h2y
  clear hk5 hz5 hf5 hw5 h2y P5 O5 D5 hgl5 hgw
  obtain ⟨w6, x6, e6, hw6⟩ : ∃ (w6 : World) (x6 : Ext w6), x5.v.setCell ⟨g, go + k * 3 + 2, none⟩ (.int .i64 0) = x6.v ∧ w6 = x5.v.setCell ⟨g, go + k * 3 + 2, none⟩ (.int .i64 0) := ⟨_, ⟨_, Below.refl _ _⟩, rfl, rfl⟩
  have HN6 : Hid (DuctIn w6 w6.heap.size (frD D k) (some ⟨g, go, none⟩) q) := by
    rw [hw6]
    have := (HD5.out.bel x5.b).setCo (v := 0) HK.out (fun h g2 o2 e => by have := HQ.out h g2 o2 e; have := HG.out; have := HZ.out; omega)
    show DuctIn _ _ (setCo D k 0) _ _
    simpa using this
  have hk6 : ∀ (b j : Nat), b ≠ g → w6.cell? ⟨b, j, none⟩ = x5.v.cell? ⟨b, j, none⟩ := fun b j h => by rw [hw6]; exact cell_else (by simp [h])
  have hz6 : w6.heap.size = x5.v.heap.size := by rw [hw6]; simp
  have hf6 : ∀ x, w6.frozen? x = x5.v.frozen? x := fun x => by rw [hw6]; simp
  have h5s := x5.b.size
  have n1 : w.heap.size ≠ g := by have := HG.out; have := HZ.out; omega
  have n2 : x1.v.heap.size ≠ g := by have := HG.out; have := HZ.out; omega
  have l1 : w.heap.size < w6.heap.size := by have := HS5.out; have := HZ.out; omega
  have l2 : x1.v.heap.size < w6.heap.size := by have := HS5.out; have := HZ.out; omega
  have T0 : ∀ z : Ext w6, z.v.cell? ⟨w.heap.size, 0, none⟩ = some (.slice (some ⟨g, go, none⟩) D.n c') := fun z => (z.b.cell l1).trans ((hk6 _ _ n1).trans (M0 x5))
  have T1 : ∀ z : Ext w6, z.v.cell? ⟨w.heap.size, 1, none⟩ = some (.slice q D.m d) := fun z => (z.b.cell l1).trans ((hk6 _ _ n1).trans (M1 x5))
  have U0 : ∀ z : Ext w6, z.v.cell? ⟨x1.v.heap.size, 0, none⟩ = some (.slice none 0 0) := fun z => (z.b.cell l2).trans ((hk6 _ _ n2).trans (N0 x5))
  have U1 : ∀ z : Ext w6, z.v.cell? ⟨x1.v.heap.size, 1, none⟩ = some (.slice none 0 0) := fun z => (z.b.cell l2).trans ((hk6 _ _ n2).trans (N1 x5))
  have Uz : ∀ (z : Ext w6) i, z.v.frozen? ⟨x1.v.heap.size, i, none⟩ = false := fun z i => (z.b.frozen (p := ⟨x1.v.heap.size, i, none⟩) l2).trans ((hf6 _).trans (Nz x5 i))
  have HB6 : Hid (Below w.heap.size w w6) := by rw [hw6]; exact bS (bT HB5.out x5.b) (show w.heap.size ≤ g by have := HG.out; have := HZ.out; omega) _
  clear hw6 hk6 hz6 hf6 h5s n1 n2 l1 l2 F0 F1 Fz G0 G1 Gz A1
  go_wp2
  refine bodyPost_ret (v := .agg #[.slice (some ⟨g, go, none⟩) D.n c', .slice q D.m d]) (by simp [results, Try.f72, go_sem, U0, U1, Uz]) rfl ⟨_, _, rfl, ?_, ?_⟩
  · exact bS (bS (bT HB6.out x6.b) (Nat.le_of_lt HZ.out.1) _) (Nat.le_of_lt HZ.out.1) _
  · have := (HN6.out.bel x6.b).set2 (bx := x1.v.heap.size) (u := .slice (some ⟨g, go, none⟩) D.n c') (v := .slice q D.m d) (fun _ g2 o2 e => by cases e; have := HG.out; have := HZ.out; omega) (fun h g2 o2 e => by have := HQ.out h g2 o2 e; have := HZ.out; omega)
    simpa using this
end Go.Proofs.Ytkdlppekjjbgoaa
