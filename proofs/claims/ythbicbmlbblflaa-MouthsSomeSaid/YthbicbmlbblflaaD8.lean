/- MouthsSome returns true in every walk. -/
import Derived.Test.YthbicbmlbblflaaC12

import Derived.Test.YthbicbmlbblflaaX2

import Derived.Test.YthbicbmlbblflaaD2

set_option linter.unusedSimpArgs false

set_option linter.unusedVariables false

namespace Go.Proofs.Ythbicbmlbblflaa

open Go.RowKit

/-- two rows that grow side by side, behind box wB.heap.size -/
structure Sb (wB W : World) (v1 v2 : Value) (n1 n2 : Nat) (f1 f2 : Nat → Int) : Prop where
  o1 : W.ownsRow (wB.heap.size + 1) 3 1 v1 n1 (row1 f1 n1)
  o2 : W.ownsRow (wB.heap.size + 1) 3 1 v2 n2 (row1 f2 n2)
  ap : ∀ g, v1.ownBlock = some g → v2.ownBlock ≠ some g
  bl : Below wB.heap.size wB W
  lt : wB.heap.size < W.heap.size
theorem Sb.below {wB W W' : World} {v1 v2 : Value} {n1 n2 : Nat} {f1 f2 : Nat → Int} (h : Sb wB W v1 v2 n1 n2 f1 f2) (hb : Below W.heap.size W W') : Sb wB W' v1 v2 n1 n2 f1 f2 :=
  ⟨own_below h.o1 hb, own_below h.o2 hb, h.ap, bT h.bl hb, Nat.lt_of_lt_of_le h.lt hb.size⟩
theorem Sb.alloc {wB W : World} {v1 v2 : Value} {n1 n2 : Nat} {f1 f2 : Nat → Int} (h : Sb wB W v1 v2 n1 n2 f1 f2) (o : Obj) : Sb wB (W.alloc o) v1 v2 n1 n2 f1 f2 := h.below (bA (Below.refl _ _) _)
theorem Sb.grow1 {wB W W' : World} {v1 v2 v' : Value} {n1 n2 : Nat} {f1 f2 : Nat → Int} (h : Sb wB W v1 v2 n1 n2 f1 f2) (hown : W'.ownsRow (wB.heap.size + 1) 3 1 v' (n1 + 1) (row1 f1 n1 ++ [.int .i64 (f1 n1)]))
    (hg : W.grownBy W' v1.ownBlock) (ha : ∀ g, v'.ownBlock = some g → v1.ownBlock = some g ∨ W.heap.size ≤ g) : Sb wB W' v' v2 (n1 + 1) n2 f1 f2 := by
  refine ⟨hown, h.o2.kept hg ?_, fun g hg' he => ?_, below_grown h.bl h.o1 (Nat.le_succ _) hg, Nat.lt_of_lt_of_le h.lt hg.size⟩
  · cases hv : v2.ownBlock with
    | none => exact .inl rfl
    | some g => exact .inr fun e => h.ap g e.symm hv
  · rcases ha g hg' with h1 | h1
    · exact h.ap g h1 he
    · have := (h.o2.lt g he).2; omega
theorem Sb.grow2 {wB W W' : World} {v1 v2 v' : Value} {n1 n2 : Nat} {f1 f2 : Nat → Int} (h : Sb wB W v1 v2 n1 n2 f1 f2) (hown : W'.ownsRow (wB.heap.size + 1) 3 1 v' (n2 + 1) (row1 f2 n2 ++ [.int .i64 (f2 n2)]))
    (hg : W.grownBy W' v2.ownBlock) (ha : ∀ g, v'.ownBlock = some g → v2.ownBlock = some g ∨ W.heap.size ≤ g) : Sb wB W' v1 v' n1 (n2 + 1) f1 f2 := by
  refine ⟨h.o1.kept hg ?_, hown, fun g hg' he => ?_, below_grown h.bl h.o2 (Nat.le_succ _) hg, Nat.lt_of_lt_of_le h.lt hg.size⟩
  · cases hv : v1.ownBlock with
    | none => exact .inl rfl
    | some g => exact .inr fun e => h.ap g hv e.symm
  · rcases ha g he with h1 | h1
    · exact h.ap g hg' h1
    · have := (h.o1.lt g hg').2; omega
/-- blocks up to ob are as they were -/
def Keep (ob : Nat) (W0 W : World) : Prop := ∀ b, b ≤ ob → W.heap[b]? = W0.heap[b]?
theorem Keep.cell {ob : Nat} {W0 W : World} (h : Keep ob W0 W) {b i : Nat} (hb : b ≤ ob) : W.cell? ⟨b, i, none⟩ = W0.cell? ⟨b, i, none⟩ := World.cell?_of_block (a := ⟨b, i, none⟩) (h b hb)
theorem Keep.frozen {ob : Nat} {W0 W : World} (h : Keep ob W0 W) {b i : Nat} (hb : b ≤ ob) : W.frozen? ⟨b, i, none⟩ = W0.frozen? ⟨b, i, none⟩ := World.frozen?_of_block (a := ⟨b, i, none⟩) (h b hb)
theorem Keep.below {ob : Nat} {W0 W W' : World} (h : Keep ob W0 W) (hl : ob < W.heap.size) (hb : Below W.heap.size W W') : Keep ob W0 W' := fun b h' => (hb.block b (by omega)).trans (h b h')
theorem Keep.grow {ob : Nat} {W0 W W' : World} {e : TypeId} {v : Value} {n : Nat} {xs : List Value} (h : Keep ob W0 W) (hl : ob < W.heap.size) (ho : W.ownsRow (ob + 1) e 1 v n xs) (hg : W.grownBy W' v.ownBlock) : Keep ob W0 W' := fun b h' =>
  (hg.block b (by omega) (fun e => by have := (ho.lt b e.symm).1; omega)).trans (h b h')
theorem lit_news {W : World} {b : Nat} {x : Value} (h : W.cell? ⟨b, 0, none⟩ = some x) : ∀ (j : Nat) (u : Value), [x][j]? = some u → W.cell? ((⟨b, 0, none⟩ : Addr).add j) = some u := fun j u hj => by
  cases j with
  | zero =>
    simp only [List.getElem?_cons_zero, Option.some.injEq] at hj
    subst hj
    rw [add_at'', Nat.add_zero]; exact h
  | succ j => simp at hj
theorem lit_new (W : World) (x : Value) (e : TypeId) : (W.alloc (.cells #[x] e)).cell? ⟨W.heap.size, 0, none⟩ = some x := by go_simp
theorem lit_below {W W' : World} {b : Nat} {x : Value} (h : W.cell? ⟨b, 0, none⟩ = some x) (hl : b < W.heap.size) (hb : Below W.heap.size W W') : W'.cell? ⟨b, 0, none⟩ = some x := (hb.cell (p := ⟨b, 0, none⟩) hl).trans h
theorem lit_grow {W W' : World} {b : Nat} {x v : Value} (h : W.cell? ⟨b, 0, none⟩ = some x) (hl : b < W.heap.size) (hg : W.grownBy W' v.ownBlock) (hne : v.ownBlock ≠ some b) : W'.cell? ⟨b, 0, none⟩ = some x :=
  (World.cell?_of_block (a := ⟨b, 0, none⟩) (hg.block b hl (fun e => hne e.symm))).trans h
theorem own_set {w : World} {base b i : Nat} {e : TypeId} {v u : Value} {n : Nat} {xs : List Value} (h : w.ownsRow (base + 1) e 1 v n xs) (hb : b ≤ base) : (w.setCell ⟨b, i, none⟩ u).ownsRow (base + 1) e 1 v n xs := by
  refine h.kept (row := some b) ⟨by first | rfl | simp, by first | rfl | simp, by first | rfl | simp, by first | rfl | simp, fun k _ hk => setCell_block (fun e => hk (by rw [e]))⟩ ?_
  cases hv : v.ownBlock with
  | none => exact .inl rfl
  | some g => exact .inr fun e => by have := (h.lt g hv).1; cases e; omega
theorem Sb.store {wB W : World} {u1 u2 v1 v2 : Value} {n : Nat} {f1 f2 : Nat → Int} (h : Sb wB W v1 v2 n n f1 f2) (m0 : W.cell? ⟨wB.heap.size, 0, none⟩ = some u1) (m1 : W.cell? ⟨wB.heap.size, 1, none⟩ = some u2) (mf : ∀ i, W.frozen? ⟨wB.heap.size, i, none⟩ = false) :
    ∃ W5, (W.setCell ⟨wB.heap.size, 0, none⟩ v1).setCell ⟨wB.heap.size, 1, none⟩ v2 = W5 ∧ W5.cell? ⟨wB.heap.size, 0, none⟩ = some v1 ∧ W5.cell? ⟨wB.heap.size, 1, none⟩ = some v2 ∧ (∀ i, W5.frozen? ⟨wB.heap.size, i, none⟩ = false) ∧ Sb wB W5 v1 v2 n n f1 f2 := by
  refine ⟨_, rfl, ?_, ?_, fun i => by have := mf i; simpa using this, own_set (own_set h.o1 (Nat.le_refl _)) (Nat.le_refl _), own_set (own_set h.o2 (Nat.le_refl _)) (Nat.le_refl _), h.ap, bS (bS h.bl (Nat.le_refl _) _) (Nat.le_refl _) _, by simpa using h.lt⟩
  · rw [World.cell?_setCell_other _ _ _ _ (by simp)]
    exact World.cell?_setCell_same _ _ _ m0
  · exact World.cell?_setCell_same _ _ _ ((World.cell?_setCell_other _ _ _ _ (by simp)).trans m1)
set_option maxRecDepth 100000 in
set_option maxHeartbeats 4000000 in
theorem some_out1 (D : Bx) (p q : Option Addr) (c d : Nat) (fl : Int) (lp : Option Addr) (lc L : Nat) (f : Nat → Int) (w : World) (hn : D.n ≤ maxLen) (hm : D.m ≤ maxLen) (hi : BxIn w w.heap.size D p q) (hL : L ≤ maxLen) (hl : NumIn w w.heap.size L f lp) (hr : rdy D fl = false) :
    Calls Try.prog 11 #[.agg #[.slice p D.n c, .slice q D.m d], .int .i64 fl, .slice lp L lc] w fun e w' => e = .returned (.bool true) ∧ Below w.heap.size w w' := by
  obtain ⟨w1, x1, hw1, hb, hB, hI⟩ := start_b D p q c d w hi
  have HL := Lib.hid (fun (y : Ext w1) => (hl.bel hb).bel y.b)
  have HB := Lib.hid hb; have HI := Lib.hid hI; have HR := Lib.hid hr
  have F0 := fun y => (hB y).c0; have F1 := fun y => (hB y).c1
  clear hb hB hI hi hr hl
  go_enter Try.func11, Try.ntmps11
  go_wp2_with fail
  refine (quiet_x (ready_is HR.out hn hm (HI.out _))).mono ?_
  rintro e w' ⟨rfl, y, rfl⟩
  go_wp2_with fail
  refine (quiet_x (works_ex _)).mono ?_
  rintro e w' ⟨rfl, y2, rfl⟩
  go_wp2
  go_ret
  exact ⟨rfl, bT HB.out y2.b⟩
set_option maxRecDepth 100000 in
set_option maxHeartbeats 4000000 in
theorem some_out2 (D : Bx) (p q : Option Addr) (c d : Nat) (fl : Int) (lp : Option Addr) (lc L : Nat) (f : Nat → Int) (w : World) (hn : D.n ≤ maxLen) (hm : D.m ≤ maxLen) (hi : BxIn w w.heap.size D p q) (hL : L ≤ maxLen) (hl : NumIn w w.heap.size L f lp) (hr : rdy D fl = true) (hq : ris f D.n L = false) :
    Calls Try.prog 11 #[.agg #[.slice p D.n c, .slice q D.m d], .int .i64 fl, .slice lp L lc] w fun e w' => e = .returned (.bool true) ∧ Below w.heap.size w w' := by
  obtain ⟨w1, x1, hw1, hb, hB, hI⟩ := start_b D p q c d w hi
  have HL := Lib.hid (fun (y : Ext w1) => (hl.bel hb).bel y.b)
  have HB := Lib.hid hb; have HI := Lib.hid hI; have HR := Lib.hid hr
  have F0 := fun y => (hB y).c0; have F1 := fun y => (hB y).c1
  clear hb hB hI hi hr hl
  obtain ⟨n4, m4, _, _⟩ := rdy_parts HR.out
  have ewn : IntKind.i64.wrap ((D.n : Int) - 1) = (D.n : Int) - 1 := IntWalk.i64_in _ (by omega)
  have HQ := Lib.hid (show ∀ (y : Ext w1), Calls Try.prog 55 #[.slice lp L lc, .int .i64 0, .int .i64 ((D.n : Int) - 1)] y.v fun e w' => e = .returned (.bool false) ∧ Below y.v.heap.size y.v w' from fun y => by
    have := rising_any L lc D.n f lp y.v hL n4 (HL.out y)
    rw [hq] at this
    exact this)
  clear hq hL
  go_enter Try.func11, Try.ntmps11
  go_wp2_with fail
  refine (quiet_x (ready_is HR.out hn hm (HI.out _))).mono ?_
  rintro e w' ⟨rfl, y, rfl⟩
  go_wp2_with fail
  refine (quiet_x (HQ.out _)).mono ?_
  rintro e w' ⟨rfl, y1, rfl⟩
  go_wp2_with fail
  refine (quiet_x (works_ex _)).mono ?_
  rintro e w' ⟨rfl, y2, rfl⟩
  go_wp2
  go_ret
  exact ⟨rfl, bT HB.out y2.b⟩
set_option maxRecDepth 100000 in
set_option maxHeartbeats 30000000 in
theorem some_in (D : Bx) (p q : Option Addr) (c d F : Nat) (lp : Option Addr) (lc L : Nat) (f : Nat → Int) (w : World) (hi : BxIn w w.heap.size D p q) (hL : L ≤ maxLen) (hl : NumIn w w.heap.size L f lp) (hr : rdy D (F : Int) = true) (hq : ris f D.n L = true) (hok : D.ok = true) (hF : F ≤ 40) :
    Calls Try.prog 11 #[.agg #[.slice p D.n c, .slice q D.m d], .int .i64 (F : Int), .slice lp L lc] w fun e w' => e = .returned (.bool true) ∧ Below w.heap.size w w' := by
  obtain ⟨w2, x2, hw1, hb, hB, hI⟩ := start_b D p q c d w hi
  have HL_0 : Hid (∀ z : Ext w2, NumIn z.v z.v.heap.size L f lp) := fun y => (hl.bel hb).bel y.b
  obtain ⟨i3, hi3, hz3, hz3', hz3''⟩ := info_parts infoI
  have I3 := Lib.hid hi3; have Z3 := Lib.hid hz3; have Z3' := Lib.hid hz3'; have Z3'' := Lib.hid hz3''; clear hi3 hz3 hz3' hz3''
  obtain ⟨n4, m4, _, _⟩ := rdy_parts hr
  obtain ⟨o1, o2, o3, o4⟩ := Bx.ok_parts hok
  have hn : D.n ≤ maxLen := by unfold maxLen; omega
  have hm : D.m ≤ maxLen := by unfold maxLen; omega
  have HB := Lib.hid hb; have HI_0 := Lib.hid hI; have HR := Lib.hid hr; have HOK := Lib.hid hok
  have HBX_0 := Lib.hid hB
  have HQQ := Lib.hid hq
  have hLn := ris_len hq
  have HMN := Lib.hid o2
  have ewn : IntKind.i64.wrap ((D.n : Int) - 1) = (D.n : Int) - 1 := IntWalk.i64_in _ (by omega)
  have HQ := Lib.hid (show ∀ (y : Ext w2), Calls Try.prog 55 #[.slice lp L lc, .int .i64 0, .int .i64 ((D.n : Int) - 1)] y.v fun e w' => e = .returned (.bool true) ∧ Below y.v.heap.size y.v w' from fun y => by
    have := rising_any L lc D.n f lp y.v hL n4 (HL_0.out y)
    rw [hq] at this
    exact this)
  clear hI hB hb hi hr hok o2 o3 o4 hq hL hl
  have F0_0 : ∀ z : Ext w2, z.v.cell? ⟨w.heap.size, 0, none⟩ = some (.slice p D.n c) := fun z => (HBX_0.out z).c0
  have F1_0 : ∀ z : Ext w2, z.v.cell? ⟨w.heap.size, 1, none⟩ = some (.slice q D.m d) := fun z => (HBX_0.out z).c1
  have HW_0 : Hid (∀ z : Ext w2, Below w.heap.size w z.v) := fun z => bT HB.out z.b
  go_enter Try.func11, Try.ntmps11
  go_wp2_with fail
  refine (quiet_x (ready_is HR.out hn hm (HI_0.out _))).mono ?_
  rintro e w' ⟨rfl, y, rfl⟩
  go_wp2_with fail
  refine (quiet_x (HQ.out _)).mono ?_
  rintro e w' ⟨rfl, y1, rfl⟩
  go_wp2_with fail
  refine (gaugesL_any D p q c d F _ HOK.out hF (HI_0.out _)).mono ?_
  rintro e wa ⟨ga, gac, rfl, hcga⟩
  have HXwa := Lib.hid (bT y1.b hcga.below); have HNga0 := Lib.hid hcga.num
  obtain ⟨zwa, hzwa⟩ := rebase wa
  clear hcga
  have HI_1 : Hid (∀ z : Ext wa, BxIn z.v z.v.heap.size D p q) := fun z => HI_0.out (z.up HXwa.out)
  have HL_1 : Hid (∀ z : Ext wa, NumIn z.v z.v.heap.size L f lp) := fun z => HL_0.out (z.up HXwa.out)
  have F0_1 : ∀ z : Ext wa, z.v.cell? ⟨w.heap.size, 0, none⟩ = some (.slice p D.n c) := fun z => F0_0 (z.up HXwa.out)
  have F1_1 : ∀ z : Ext wa, z.v.cell? ⟨w.heap.size, 1, none⟩ = some (.slice q D.m d) := fun z => F1_0 (z.up HXwa.out)
  have HW_1 : Hid (∀ z : Ext wa, Below w.heap.size w z.v) := fun z => HW_0.out (z.up HXwa.out)
  clear HI_0 HL_0 F0_0 F1_0 HW_0
  have Nga_1 : Hid (∀ z : Ext wa, NumIn z.v z.v.heap.size D.n (gv D F) ga) := fun z => HNga0.out.bel z.b
  rw [hzwa]; clear hzwa
  clear hw1 ewn
  obtain ⟨w3, x3, hw3, hb3, hz3, G0, G1, Gf⟩ := box_nil zwa.v
  obtain ⟨z3, hz3'⟩ : ∃ z3 : Ext wa, x3.v = z3.v := ⟨⟨x3.v, bT (bT zwa.b hb3) x3.b⟩, rfl⟩
  have HSB : Hid (Sb zwa.v z3.v (.slice none 0 0) (.slice none 0 0) 0 0 (fun i => D.sh (qt f i)) (fun i => D.mo (qt f i))) := by
    rw [← hz3']
    exact ⟨World.ownsRow_nil _ _ _ _, World.ownsRow_nil _ _ _ _, (fun g h => by cases h), bT hb3 x3.b, by have := x3.b.size; omega⟩
  have HG0 : Hid (z3.v.cell? ⟨zwa.v.heap.size, 0, none⟩ = some (.slice none 0 0)) := by rw [← hz3']; exact G0 x3
  have HG1 : Hid (z3.v.cell? ⟨zwa.v.heap.size, 1, none⟩ = some (.slice none 0 0)) := by rw [← hz3']; exact G1 x3
  have HGF : Hid (∀ i, z3.v.frozen? ⟨zwa.v.heap.size, i, none⟩ = false) := by rw [← hz3']; exact Gf x3
  rw [hz3'] at hw3
  have HOB : Hid (w.heap.size ≤ zwa.v.heap.size) := by have := HB.out.size; have := zwa.b.size; have := HXwa.out.size; show _ ≤ _; omega
  clear hb3 hz3 G0 G1 Gf hz3'
  go_wp2
  clear hw3
  go_loopw [10, 11] (fun s i wr => ∃ k : Nat, i = .int .i64 k ∧ s = .int .i64 (tog D f F k) ∧ k ≤ L ∧ ∃ (v1 v2 : Value) (z : Ext wa), wr = z.v ∧ z.v.cell? ⟨zwa.v.heap.size, 0, none⟩ = some v1 ∧ z.v.cell? ⟨zwa.v.heap.size, 1, none⟩ = some v2 ∧ (∀ i, z.v.frozen? ⟨zwa.v.heap.size, i, none⟩ = false) ∧ Sb zwa.v z.v v1 v2 k k (fun i => D.sh (qt f i)) (fun i => D.mo (qt f i))) (fun _ i _ => L - (intOf i).toNat)
  case atStart => exact ⟨0, rfl, rfl, Nat.zero_le _, _, _, z3, rfl, HG0.out, HG1.out, HGF.out, HSB.out⟩
  case round =>
    obtain ⟨k, rfl, rfl, hk, v1, v2, z, rfl, hc0, hc1, hcf, hsb⟩ := hrel
    have HC0 := Lib.hid hc0; have HC1 := Lib.hid hc1; have HCF := Lib.hid hcf; have HS := Lib.hid hsb
    clear HSB HG0 HG1 HGF hcf hsb hc0 hc1
    by_cases hlt : k < L
    · have hq := qt_lt HQQ.out hlt
      obtain ⟨Q, hQ⟩ : ∃ Q, qt f k = Q := ⟨_, rfl⟩
      have HQK := Lib.hid hQ
      rw [hQ] at hq
      obtain ⟨hqn, hqe⟩ := hq
      obtain ⟨bl, ol, rfl, _, _⟩ := (HL_1.out zwa) (by omega)
      obtain ⟨b1, of1, rfl, hb1l, _⟩ := (HI_1.out zwa).s (by omega)
      obtain ⟨b2, of2, rfl, hb2l, _⟩ := (HI_1.out zwa).o (by have := HMN.out; omega)
      obtain ⟨ga0, gao, rfl, _, _⟩ := (Nga_1.out zwa) (by omega)
      have E0 : ∀ z : Ext wa, z.v.cell? ⟨bl, ol + k, none⟩ = some (.int .i64 (Q : Int)) := fun z => by rw [← hqe]; exact ((HL_1.out z).cell hlt).2
      have E1 : z.v.cell? ⟨b1, of1 + Q, none⟩ = some (.int .i64 (D.sh Q)) := ((HI_1.out z).s.cell hqn).2
      have E2 : z.v.cell? ⟨b2, of2 + Q, none⟩ = some (.int .i64 (D.mo Q)) := ((HI_1.out z).o.cell (by have := HMN.out; omega)).2
      have E3 : ∀ z : Ext wa, z.v.cell? ⟨ga0, gao + Q, none⟩ = some (.int .i64 (gv D F Q)) := fun z => ((Nga_1.out z).cell hqn).2
      have B0 := F0_1 z; have B1 := F1_1 z
      have HE1 := Lib.hid E1; have HE2 := Lib.hid E2; have HB0 := Lib.hid B0; have HB1 := Lib.hid B1
      have hob := HOB.out
      have hkm : (k : Int) < (L : Int) := by omega
      have hqm : (Q : Int) < (D.n : Int) := by omega
      have hqm2 : (Q : Int) < (D.m : Int) := by have := HMN.out; omega
      have v3 := sumN_bd (f := fun i => gv D F (qt f i)) (l := L) (fun i hi => by have := gv_5' HOK.out F (qt f i) (by have := (qt_lt HQQ.out hi).1; omega); exact this) k hk
      have v4 := gv_5' HOK.out F Q (by omega)
      have ew : IntKind.i64.wrap (tog D f F k + gv D F Q) = tog D f F (k + 1) := by
        rw [IntWalk.i64_in _ (by unfold tog; omega), ← HQK.out]; rfl
      clear hqe hQ v3 v4 E1 E2 B0 B1
      go_wp2
      refine wp_region_tail (fun W => Keep zwa.v.heap.size z.v W) 19 3 (by kernel_rfl) rfl (fun b hb => (bd (Below.refl _ _)).block b (by have := HS.out.lt; omega)) (fun hS0 => ?_)
      have HK0 := Lib.hid hS0; clear hS0
      have HS0 := Lib.hid (HS.out.below (bd (Below.refl _ _)))
      obtain ⟨Z0, hZ0⟩ : ∃ Z0, z.v.drew = Z0 := ⟨_, rfl⟩
      rw [hZ0] at HK0 HS0 ⊢
      clear hZ0
      refine wpAnyG2_take (i := 0) (v := ?_) (by kernel_rfl) rfl (by kernel_rfl) (by kernel_rfl) (by kernel_rfl) (fun _ _ _ h => h) (Or.inl ⟨by rfl, ?_⟩) HK0.out ?_
      rotate_left
      · rintro wS hS
        have s0 := hS.cell (b := zwa.v.heap.size) (i := 0) (Nat.le_refl _); rw [HC0.out] at s0
        have s1 := hS.cell (b := zwa.v.heap.size) (i := 1) (Nat.le_refl _); rw [HC1.out] at s1
        have s2 := hS.cell (b := w.heap.size) (i := 0) hob; rw [HB0.out] at s2
        have s3 := hS.cell (b := w.heap.size) (i := 1) hob; rw [HB1.out] at s3
        have s4 := hS.cell (b := b1) (i := of1 + Q) (Nat.le_of_lt hb1l); rw [HE1.out] at s4
        have s5 := hS.cell (b := b2) (i := of2 + Q) (Nat.le_of_lt hb2l); rw [HE2.out] at s5
        go_simp
        try (with_reducible rfl)
      try simp only [Act.put, List.setIfInBounds_toArray, List.set_cons_zero, List.set_cons_succ]
      refine wpAnyG2_take (i := 1) (v := ?_) (by kernel_rfl) rfl (by kernel_rfl) (by kernel_rfl) (by kernel_rfl) (fun _ _ _ h => h) (Or.inl ⟨by rfl, ?_⟩) HK0.out ?_
      rotate_left
      · rintro wS hS
        have s0 := hS.cell (b := zwa.v.heap.size) (i := 0) (Nat.le_refl _); rw [HC0.out] at s0
        have s1 := hS.cell (b := zwa.v.heap.size) (i := 1) (Nat.le_refl _); rw [HC1.out] at s1
        have s2 := hS.cell (b := w.heap.size) (i := 0) hob; rw [HB0.out] at s2
        have s3 := hS.cell (b := w.heap.size) (i := 1) hob; rw [HB1.out] at s3
        have s4 := hS.cell (b := b1) (i := of1 + Q) (Nat.le_of_lt hb1l); rw [HE1.out] at s4
        have s5 := hS.cell (b := b2) (i := of2 + Q) (Nat.le_of_lt hb2l); rw [HE2.out] at s5
        go_simp
        try (with_reducible rfl)
      try simp only [Act.put, List.setIfInBounds_toArray, List.set_cons_zero, List.set_cons_succ]
      refine wpAnyG2_take (i := 2) (v := ?_) (by kernel_rfl) rfl (by kernel_rfl) (by kernel_rfl) (by kernel_rfl) (fun _ _ _ h => h) (Or.inl ⟨by rfl, ?_⟩) HK0.out ?_
      rotate_left
      · rintro wS hS
        have s0 := hS.cell (b := zwa.v.heap.size) (i := 0) (Nat.le_refl _); rw [HC0.out] at s0
        have s1 := hS.cell (b := zwa.v.heap.size) (i := 1) (Nat.le_refl _); rw [HC1.out] at s1
        have s2 := hS.cell (b := w.heap.size) (i := 0) hob; rw [HB0.out] at s2
        have s3 := hS.cell (b := w.heap.size) (i := 1) hob; rw [HB1.out] at s3
        have s4 := hS.cell (b := b1) (i := of1 + Q) (Nat.le_of_lt hb1l); rw [HE1.out] at s4
        have s5 := hS.cell (b := b2) (i := of2 + Q) (Nat.le_of_lt hb2l); rw [HE2.out] at s5
        go_simp
        try (with_reducible rfl)
      try simp only [Act.put, List.setIfInBounds_toArray, List.set_cons_zero, List.set_cons_succ]
      refine wpAnyG2_take (i := 3) (v := ?_) (by kernel_rfl) rfl (by kernel_rfl) (by kernel_rfl) (by kernel_rfl) (fun _ _ _ h => h) (Or.inl ⟨by rfl, ?_⟩) HK0.out ?_
      rotate_left
      · rintro wS hS
        have s0 := hS.cell (b := zwa.v.heap.size) (i := 0) (Nat.le_refl _); rw [HC0.out] at s0
        have s1 := hS.cell (b := zwa.v.heap.size) (i := 1) (Nat.le_refl _); rw [HC1.out] at s1
        have s2 := hS.cell (b := w.heap.size) (i := 0) hob; rw [HB0.out] at s2
        have s3 := hS.cell (b := w.heap.size) (i := 1) hob; rw [HB1.out] at s3
        have s4 := hS.cell (b := b1) (i := of1 + Q) (Nat.le_of_lt hb1l); rw [HE1.out] at s4
        have s5 := hS.cell (b := b2) (i := of2 + Q) (Nat.le_of_lt hb2l); rw [HE2.out] at s5
        go_simp
        try (with_reducible rfl)
      try simp only [Act.put, List.setIfInBounds_toArray, List.set_cons_zero, List.set_cons_succ]
      refine wpAnyG2_take (i := 4) (v := ?_) (by kernel_rfl) rfl (by kernel_rfl) (by kernel_rfl) (by kernel_rfl) (fun _ _ _ h => h) (Or.inl ⟨by rfl, ?_⟩) HK0.out ?_
      rotate_left
      · rintro wS hS
        have s0 := hS.cell (b := zwa.v.heap.size) (i := 0) (Nat.le_refl _); rw [HC0.out] at s0
        have s1 := hS.cell (b := zwa.v.heap.size) (i := 1) (Nat.le_refl _); rw [HC1.out] at s1
        have s2 := hS.cell (b := w.heap.size) (i := 0) hob; rw [HB0.out] at s2
        have s3 := hS.cell (b := w.heap.size) (i := 1) hob; rw [HB1.out] at s3
        have s4 := hS.cell (b := b1) (i := of1 + Q) (Nat.le_of_lt hb1l); rw [HE1.out] at s4
        have s5 := hS.cell (b := b2) (i := of2 + Q) (Nat.le_of_lt hb2l); rw [HE2.out] at s5
        go_simp
        try (with_reducible rfl)
      try simp only [Act.put, List.setIfInBounds_toArray, List.set_cons_zero, List.set_cons_succ]
      refine wpAnyG2_take (i := 5) (v := ?_) (by kernel_rfl) rfl (by kernel_rfl) (by kernel_rfl) (by kernel_rfl) (fun _ _ _ h => h) (Or.inl ⟨by rfl, ?_⟩) HK0.out ?_
      rotate_left
      · rintro wS hS
        have s0 := hS.cell (b := zwa.v.heap.size) (i := 0) (Nat.le_refl _); rw [HC0.out] at s0
        have s1 := hS.cell (b := zwa.v.heap.size) (i := 1) (Nat.le_refl _); rw [HC1.out] at s1
        have s2 := hS.cell (b := w.heap.size) (i := 0) hob; rw [HB0.out] at s2
        have s3 := hS.cell (b := w.heap.size) (i := 1) hob; rw [HB1.out] at s3
        have s4 := hS.cell (b := b1) (i := of1 + Q) (Nat.le_of_lt hb1l); rw [HE1.out] at s4
        have s5 := hS.cell (b := b2) (i := of2 + Q) (Nat.le_of_lt hb2l); rw [HE2.out] at s5
        go_simp
        try (with_reducible rfl)
      try simp only [Act.put, List.setIfInBounds_toArray, List.set_cons_zero, List.set_cons_succ]
      refine wpAnyG2_take (i := 6) (v := ?_) (by kernel_rfl) rfl (by kernel_rfl) (by kernel_rfl) (by kernel_rfl) (fun _ _ _ h => h) (Or.inl ⟨by rfl, ?_⟩) HK0.out ?_
      rotate_left
      · rintro wS hS
        have s0 := hS.cell (b := zwa.v.heap.size) (i := 0) (Nat.le_refl _); rw [HC0.out] at s0
        have s1 := hS.cell (b := zwa.v.heap.size) (i := 1) (Nat.le_refl _); rw [HC1.out] at s1
        have s2 := hS.cell (b := w.heap.size) (i := 0) hob; rw [HB0.out] at s2
        have s3 := hS.cell (b := w.heap.size) (i := 1) hob; rw [HB1.out] at s3
        have s4 := hS.cell (b := b1) (i := of1 + Q) (Nat.le_of_lt hb1l); rw [HE1.out] at s4
        have s5 := hS.cell (b := b2) (i := of2 + Q) (Nat.le_of_lt hb2l); rw [HE2.out] at s5
        go_simp
        try (with_reducible rfl)
      try simp only [Act.put, List.setIfInBounds_toArray, List.set_cons_zero, List.set_cons_succ]
      refine wpAnyG2_take (i := 9) (v := ?_) (by kernel_rfl) rfl (by kernel_rfl) (by kernel_rfl) (by kernel_rfl) (fun _ _ _ h => h) (Or.inl ⟨by rfl, ?_⟩) HK0.out ?_
      rotate_left
      · rintro wS hS
        have s0 := hS.cell (b := zwa.v.heap.size) (i := 0) (Nat.le_refl _); rw [HC0.out] at s0
        have s1 := hS.cell (b := zwa.v.heap.size) (i := 1) (Nat.le_refl _); rw [HC1.out] at s1
        have s2 := hS.cell (b := w.heap.size) (i := 0) hob; rw [HB0.out] at s2
        have s3 := hS.cell (b := w.heap.size) (i := 1) hob; rw [HB1.out] at s3
        have s4 := hS.cell (b := b1) (i := of1 + Q) (Nat.le_of_lt hb1l); rw [HE1.out] at s4
        have s5 := hS.cell (b := b2) (i := of2 + Q) (Nat.le_of_lt hb2l); rw [HE2.out] at s5
        go_simp
        try (with_reducible rfl)
      try simp only [Act.put, List.setIfInBounds_toArray, List.set_cons_zero, List.set_cons_succ]
      refine wpAnyG2_take (i := 10) (v := ?_) (by kernel_rfl) rfl (by kernel_rfl) (by kernel_rfl) (by kernel_rfl) (fun _ _ _ h => h) (Or.inl ⟨by rfl, ?_⟩) HK0.out ?_
      rotate_left
      · rintro wS hS
        have s0 := hS.cell (b := zwa.v.heap.size) (i := 0) (Nat.le_refl _); rw [HC0.out] at s0
        have s1 := hS.cell (b := zwa.v.heap.size) (i := 1) (Nat.le_refl _); rw [HC1.out] at s1
        have s2 := hS.cell (b := w.heap.size) (i := 0) hob; rw [HB0.out] at s2
        have s3 := hS.cell (b := w.heap.size) (i := 1) hob; rw [HB1.out] at s3
        have s4 := hS.cell (b := b1) (i := of1 + Q) (Nat.le_of_lt hb1l); rw [HE1.out] at s4
        have s5 := hS.cell (b := b2) (i := of2 + Q) (Nat.le_of_lt hb2l); rw [HE2.out] at s5
        go_simp
        try (with_reducible rfl)
      try simp only [Act.put, List.setIfInBounds_toArray, List.set_cons_zero, List.set_cons_succ]
      refine wpAnyG2_take (i := 11) (v := ?_) (by kernel_rfl) rfl (by kernel_rfl) (by kernel_rfl) (by kernel_rfl) (fun _ _ _ h => h) (Or.inl ⟨by rfl, ?_⟩) HK0.out ?_
      rotate_left
      · rintro wS hS
        have s0 := hS.cell (b := zwa.v.heap.size) (i := 0) (Nat.le_refl _); rw [HC0.out] at s0
        have s1 := hS.cell (b := zwa.v.heap.size) (i := 1) (Nat.le_refl _); rw [HC1.out] at s1
        have s2 := hS.cell (b := w.heap.size) (i := 0) hob; rw [HB0.out] at s2
        have s3 := hS.cell (b := w.heap.size) (i := 1) hob; rw [HB1.out] at s3
        have s4 := hS.cell (b := b1) (i := of1 + Q) (Nat.le_of_lt hb1l); rw [HE1.out] at s4
        have s5 := hS.cell (b := b2) (i := of2 + Q) (Nat.le_of_lt hb2l); rw [HE2.out] at s5
        go_simp
        try (with_reducible rfl)
      try simp only [Act.put, List.setIfInBounds_toArray, List.set_cons_zero, List.set_cons_succ]
      refine wpAnyG2_take (i := 12) (v := ?_) (by kernel_rfl) rfl (by kernel_rfl) (by kernel_rfl) (by kernel_rfl) (fun _ _ _ h => h) (Or.inl ⟨by rfl, ?_⟩) HK0.out ?_
      rotate_left
      · rintro wS hS
        have s0 := hS.cell (b := zwa.v.heap.size) (i := 0) (Nat.le_refl _); rw [HC0.out] at s0
        have s1 := hS.cell (b := zwa.v.heap.size) (i := 1) (Nat.le_refl _); rw [HC1.out] at s1
        have s2 := hS.cell (b := w.heap.size) (i := 0) hob; rw [HB0.out] at s2
        have s3 := hS.cell (b := w.heap.size) (i := 1) hob; rw [HB1.out] at s3
        have s4 := hS.cell (b := b1) (i := of1 + Q) (Nat.le_of_lt hb1l); rw [HE1.out] at s4
        have s5 := hS.cell (b := b2) (i := of2 + Q) (Nat.le_of_lt hb2l); rw [HE2.out] at s5
        go_simp
        try (with_reducible rfl)
      try simp only [Act.put, List.setIfInBounds_toArray, List.set_cons_zero, List.set_cons_succ]
      refine wpAnyG2_take (i := 13) (v := ?_) (by kernel_rfl) rfl (by kernel_rfl) (by kernel_rfl) (by kernel_rfl) (fun _ _ _ h => h) (Or.inl ⟨by rfl, ?_⟩) HK0.out ?_
      rotate_left
      · rintro wS hS
        have s0 := hS.cell (b := zwa.v.heap.size) (i := 0) (Nat.le_refl _); rw [HC0.out] at s0
        have s1 := hS.cell (b := zwa.v.heap.size) (i := 1) (Nat.le_refl _); rw [HC1.out] at s1
        have s2 := hS.cell (b := w.heap.size) (i := 0) hob; rw [HB0.out] at s2
        have s3 := hS.cell (b := w.heap.size) (i := 1) hob; rw [HB1.out] at s3
        have s4 := hS.cell (b := b1) (i := of1 + Q) (Nat.le_of_lt hb1l); rw [HE1.out] at s4
        have s5 := hS.cell (b := b2) (i := of2 + Q) (Nat.le_of_lt hb2l); rw [HE2.out] at s5
        go_simp
        try (with_reducible rfl)
      try simp only [Act.put, List.setIfInBounds_toArray, List.set_cons_zero, List.set_cons_succ]
      refine wpAnyG2_take (i := 14) (v := ?_) (by kernel_rfl) rfl (by kernel_rfl) (by kernel_rfl) (by kernel_rfl) (fun _ _ _ h => h) (Or.inl ⟨by rfl, ?_⟩) HK0.out ?_
      rotate_left
      · rintro wS hS
        have s0 := hS.cell (b := zwa.v.heap.size) (i := 0) (Nat.le_refl _); rw [HC0.out] at s0
        have s1 := hS.cell (b := zwa.v.heap.size) (i := 1) (Nat.le_refl _); rw [HC1.out] at s1
        have s2 := hS.cell (b := w.heap.size) (i := 0) hob; rw [HB0.out] at s2
        have s3 := hS.cell (b := w.heap.size) (i := 1) hob; rw [HB1.out] at s3
        have s4 := hS.cell (b := b1) (i := of1 + Q) (Nat.le_of_lt hb1l); rw [HE1.out] at s4
        have s5 := hS.cell (b := b2) (i := of2 + Q) (Nat.le_of_lt hb2l); rw [HE2.out] at s5
        go_simp
        try (with_reducible rfl)
      try simp only [Act.put, List.setIfInBounds_toArray, List.set_cons_zero, List.set_cons_succ]
      refine wpAnyG2_take (i := 15) (v := ?_) (by kernel_rfl) rfl (by kernel_rfl) (by kernel_rfl) (by kernel_rfl) (fun _ _ _ h => h) (Or.inl ⟨by rfl, ?_⟩) HK0.out ?_
      rotate_left
      · rintro wS hS
        have s0 := hS.cell (b := zwa.v.heap.size) (i := 0) (Nat.le_refl _); rw [HC0.out] at s0
        have s1 := hS.cell (b := zwa.v.heap.size) (i := 1) (Nat.le_refl _); rw [HC1.out] at s1
        have s2 := hS.cell (b := w.heap.size) (i := 0) hob; rw [HB0.out] at s2
        have s3 := hS.cell (b := w.heap.size) (i := 1) hob; rw [HB1.out] at s3
        have s4 := hS.cell (b := b1) (i := of1 + Q) (Nat.le_of_lt hb1l); rw [HE1.out] at s4
        have s5 := hS.cell (b := b2) (i := of2 + Q) (Nat.le_of_lt hb2l); rw [HE2.out] at s5
        go_simp
        try (with_reducible rfl)
      try simp only [Act.put, List.setIfInBounds_toArray, List.set_cons_zero, List.set_cons_succ]
      refine wpAnyG2_two (i := 7) (j := 16) (by kernel_rfl) (by decide) (by decide) ?_ ?_
      ·
        refine wpOp_plain rfl rfl ?_
        go_simp
        have hl1 := lit_new Z0 (.int .i64 (D.sh Q)) 3
        have hs1 := HS0.out.alloc (Obj.cells #[.int .i64 (D.sh Q)] 3)
        have hk1 := Keep.below HK0.out HS0.out.lt (bA (Below.refl _ _) (Obj.cells #[.int .i64 (D.sh Q)] 3))
        have hz1 : Z0.heap.size < (Z0.alloc (Obj.cells #[.int .i64 (D.sh Q)] 3)).heap.size := by simp
        obtain ⟨A1, hA1⟩ : ∃ A, Z0.heap.size = A := ⟨_, rfl⟩
        obtain ⟨W1, hW1⟩ : ∃ W', Z0.alloc (Obj.cells #[.int .i64 (D.sh Q)] 3) = W' := ⟨_, rfl⟩
        rw [hW1] at hl1 hs1 hk1 hz1 ⊢
        rw [hA1] at hl1 hz1 ⊢
        have ha1 : Hid (Z0.heap.size ≤ A1) := by rw [← hA1]; exact Nat.le_refl _
        have HL1 := Lib.hid hl1; have HS1 := Lib.hid hs1; have HK1 := Lib.hid hk1; have HZ1 := Lib.hid hz1
        clear hl1 hs1 hk1 hz1 hW1
        refine ⟨HK1.out, ?_⟩
        try simp only [Act.put, List.setIfInBounds_toArray, List.set_cons_zero, List.set_cons_succ]
        have hg1 : Hid (Z0.heap.size ≤ W1.heap.size) := Nat.le_of_lt (Nat.lt_of_le_of_lt ha1.out HZ1.out)
        refine wpAnyG2_two (i := 8) (j := 16) (by kernel_rfl) (by decide) (by decide) ?_ ?_
        ·
          refine wpOp_plain rfl rfl ?_
          refine wp_append_one (w := W1) rfl (.tmp 49) (.tmp 55) 22 rfl (zwa.v.heap.size + 1) 3 i3 _ 1 8 Try.underlying22 I3.out Z3.out Z3'.out Z3''.out rfl (by decide) v1 k _ (by simp [Act.eval, Act.put]) HS1.out.o1 ⟨A1, 0, none⟩ 1 1 [.int .i64 (D.sh Q)] (by simp [Act.eval, Act.put]) rfl (lit_news HL1.out) (by simp [Value.oneCell']) (by omega) (by unfold maxLen; omega) (by omega) HS1.out.lt ?_
          intro u1 W2 hown hgrow hap
          have hs2 := HS1.out.grow1 (v' := u1) (by have e : .int .i64 (D.sh Q) = Value.int .i64 ((fun i => D.sh (qt f i)) k) := (by show _ = Value.int .i64 (D.sh (qt f k)); rw [HQK.out]); rw [← e]; exact hown) hgrow hap
          have HS2 := Lib.hid hs2
          have HK2 := Lib.hid (Keep.grow HK1.out HS1.out.lt HS1.out.o1 hgrow)
          have hg2 : Hid (Z0.heap.size ≤ W2.heap.size) := Nat.le_trans (hg1.out) hgrow.size
          clear hown hgrow hap hs2
          refine ⟨HK2.out, ?_⟩
          try simp only [Act.put, List.setIfInBounds_toArray, List.set_cons_zero, List.set_cons_succ]
          refine wpAnyG2_take (i := 18) (v := ?_) (by kernel_rfl) rfl (by kernel_rfl) (by kernel_rfl) (by kernel_rfl) (fun _ _ _ h => h) (Or.inl ⟨by rfl, ?_⟩) HK2.out ?_
          rotate_left
          · rintro wS hS
            have s0 := hS.cell (b := zwa.v.heap.size) (i := 0) (Nat.le_refl _); rw [HC0.out] at s0
            have s1 := hS.cell (b := zwa.v.heap.size) (i := 1) (Nat.le_refl _); rw [HC1.out] at s1
            have s2 := hS.cell (b := w.heap.size) (i := 0) hob; rw [HB0.out] at s2
            have s3 := hS.cell (b := w.heap.size) (i := 1) hob; rw [HB1.out] at s3
            have s4 := hS.cell (b := b1) (i := of1 + Q) (Nat.le_of_lt hb1l); rw [HE1.out] at s4
            have s5 := hS.cell (b := b2) (i := of2 + Q) (Nat.le_of_lt hb2l); rw [HE2.out] at s5
            go_simp
            try (with_reducible rfl)
          try simp only [Act.put, List.setIfInBounds_toArray, List.set_cons_zero, List.set_cons_succ]
          refine wpAnyG2_one (i := 16) (by kernel_rfl) (by decide) (wpOp_plain rfl rfl ?_)
          go_simp
          have hl3 := lit_new W2 (.int .i64 (D.mo Q)) 3
          have hs3 := HS2.out.alloc (Obj.cells #[.int .i64 (D.mo Q)] 3)
          have hk3 := Keep.below HK2.out HS2.out.lt (bA (Below.refl _ _) (Obj.cells #[.int .i64 (D.mo Q)] 3))
          have hz3 : W2.heap.size < (W2.alloc (Obj.cells #[.int .i64 (D.mo Q)] 3)).heap.size := by simp
          obtain ⟨A3, hA3⟩ : ∃ A, W2.heap.size = A := ⟨_, rfl⟩
          obtain ⟨W3, hW3⟩ : ∃ W', W2.alloc (Obj.cells #[.int .i64 (D.mo Q)] 3) = W' := ⟨_, rfl⟩
          rw [hW3] at hl3 hs3 hk3 hz3 ⊢
          rw [hA3] at hl3 hz3 ⊢
          have ha3 : Hid (Z0.heap.size ≤ A3) := by rw [← hA3]; exact hg2.out
          have HL3 := Lib.hid hl3; have HS3 := Lib.hid hs3; have HK3 := Lib.hid hk3; have HZ3 := Lib.hid hz3
          clear hl3 hs3 hk3 hz3 hW3
          refine ⟨HK3.out, ?_⟩
          try simp only [Act.put, List.setIfInBounds_toArray, List.set_cons_zero, List.set_cons_succ]
          have hg3 : Hid (Z0.heap.size ≤ W3.heap.size) := Nat.le_of_lt (Nat.lt_of_le_of_lt ha3.out HZ3.out)
          refine wpAnyG2_one (i := 17) (by kernel_rfl) (by decide) (wpOp_plain rfl rfl ?_)
          refine wp_append_one (w := W3) rfl (.tmp 58) (.tmp 64) 22 rfl (zwa.v.heap.size + 1) 3 i3 _ 1 8 Try.underlying22 I3.out Z3.out Z3'.out Z3''.out rfl (by decide) v2 k _ (by simp [Act.eval, Act.put]) HS3.out.o2 ⟨A3, 0, none⟩ 1 1 [.int .i64 (D.mo Q)] (by simp [Act.eval, Act.put]) rfl (lit_news HL3.out) (by simp [Value.oneCell']) (by omega) (by unfold maxLen; omega) (by omega) HS3.out.lt ?_
          intro u2 W4 hown hgrow hap
          have hs4 := HS3.out.grow2 (v' := u2) (by have e : .int .i64 (D.mo Q) = Value.int .i64 ((fun i => D.mo (qt f i)) k) := (by show _ = Value.int .i64 (D.mo (qt f k)); rw [HQK.out]); rw [← e]; exact hown) hgrow hap
          have HS4 := Lib.hid hs4
          have HK4 := Lib.hid (Keep.grow HK3.out HS3.out.lt HS3.out.o2 hgrow)
          have hg4 : Hid (Z0.heap.size ≤ W4.heap.size) := Nat.le_trans (hg3.out) hgrow.size
          clear hown hgrow hap hs4
          refine ⟨HK4.out, ?_⟩
          try simp only [Act.put, List.setIfInBounds_toArray, List.set_cons_zero, List.set_cons_succ]
          obtain ⟨pu1, cu1, eu1, _⟩ := own_form HS4.out.o1
          obtain ⟨pu2, cu2, eu2, _⟩ := own_form HS4.out.o2
          subst eu1; subst eu2
          refine wpAnyG2_done (by kernel_rfl) ?_
          have m0 := HK4.out.cell (b := zwa.v.heap.size) (i := 0) (Nat.le_refl _); rw [HC0.out] at m0
          have m1 := HK4.out.cell (b := zwa.v.heap.size) (i := 1) (Nat.le_refl _); rw [HC1.out] at m1
          have mf : ∀ i, W4.frozen? ⟨zwa.v.heap.size, i, none⟩ = false := fun i => (HK4.out.frozen (b := zwa.v.heap.size) (i := i) (Nat.le_refl _)).trans (HCF.out i)
          obtain ⟨WE, hWE, d0, d1, df, hs5⟩ := Sb.store HS4.out m0 m1 mf
          have n1 : (W4.setCell ⟨zwa.v.heap.size, 0, none⟩ (.slice pu1 (k + 1) cu1)).cell? ⟨zwa.v.heap.size, 1, none⟩ = some v2 := (World.cell?_setCell_other _ _ _ _ (by simp)).trans m1
          have nf : ∀ i, (W4.setCell ⟨zwa.v.heap.size, 0, none⟩ (.slice pu1 (k + 1) cu1)).frozen? ⟨zwa.v.heap.size, i, none⟩ = false := fun i => by have := mf i; simpa using this
          have HD0 := Lib.hid d0; have HD1 := Lib.hid d1; have HDF := Lib.hid df; have HS5 := Lib.hid hs5
          clear d0 d1 df hs5
          refine wpAny_one (i := 19) (by kernel_rfl) ?_
          refine wpOp_plain rfl rfl ?_
          go_simp
          try simp only [Act.put, List.setIfInBounds_toArray, List.set_cons_zero, List.set_cons_succ]
          refine wpAny_one (i := 20) (by kernel_rfl) ?_
          refine wpOp_plain rfl rfl ?_
          go_simp
          try simp only [Act.put, List.setIfInBounds_toArray, List.set_cons_zero, List.set_cons_succ]
          refine wpAny_one (i := 21) (by kernel_rfl) ?_
          refine wpOp_plain rfl rfl ?_
          go_simp
          try simp only [Act.put, List.setIfInBounds_toArray, List.set_cons_zero, List.set_cons_succ]
          refine wpAny_end (by kernel_rfl) ?_
          try rw [hWE]
          clear m0 m1 mf n1 nf hWE
          obtain ⟨z5, hz5⟩ : ∃ z5 : Ext wa, WE = z5.v := ⟨⟨WE, bT zwa.b HS5.out.bl⟩, rfl⟩
          rw [hz5] at HD0 HD1 HDF HS5 ⊢
          clear hz5
          go_wp2
          go_roundw
          case rel => exact ⟨k + 1, by go_num, rfl, hlt, _, _, z5, rfl, HD0.out, HD1.out, HDF.out, HS5.out⟩
          case measure => first | (simp [intOf]; done) | (simp [intOf]; omega)
        ·
          refine wpOp_plain rfl rfl ?_
          go_simp
          have hl5 := lit_new W1 (.int .i64 (D.mo Q)) 3
          have hs5 := HS1.out.alloc (Obj.cells #[.int .i64 (D.mo Q)] 3)
          have hk5 := Keep.below HK1.out HS1.out.lt (bA (Below.refl _ _) (Obj.cells #[.int .i64 (D.mo Q)] 3))
          have hz5 : W1.heap.size < (W1.alloc (Obj.cells #[.int .i64 (D.mo Q)] 3)).heap.size := by simp
          have hm5 := lit_below HL1.out HZ1.out (bA (Below.refl _ _) (Obj.cells #[.int .i64 (D.mo Q)] 3))
          have hn5 := Nat.lt_trans HZ1.out hz5
          obtain ⟨A5, hA5⟩ : ∃ A, W1.heap.size = A := ⟨_, rfl⟩
          obtain ⟨W5, hW5⟩ : ∃ W', W1.alloc (Obj.cells #[.int .i64 (D.mo Q)] 3) = W' := ⟨_, rfl⟩
          rw [hW5] at hl5 hs5 hk5 hz5 hm5 hn5 ⊢
          rw [hA5] at hl5 hz5 ⊢
          have ha5 : Hid (Z0.heap.size ≤ A5) := by rw [← hA5]; exact hg1.out
          have HL5 := Lib.hid hl5; have HS5 := Lib.hid hs5; have HK5 := Lib.hid hk5; have HZ5 := Lib.hid hz5
          have HM5 := Lib.hid hm5; have HN5 := Lib.hid hn5
          clear hm5 hn5
          clear hl5 hs5 hk5 hz5 hW5
          refine ⟨HK5.out, ?_⟩
          try simp only [Act.put, List.setIfInBounds_toArray, List.set_cons_zero, List.set_cons_succ]
          have hg5 : Hid (Z0.heap.size ≤ W5.heap.size) := Nat.le_of_lt (Nat.lt_of_le_of_lt ha5.out HZ5.out)
          refine wpAnyG2_one (i := 8) (by kernel_rfl) (by decide) (wpOp_plain rfl rfl ?_)
          refine wp_append_one (w := W5) rfl (.tmp 49) (.tmp 55) 22 rfl (zwa.v.heap.size + 1) 3 i3 _ 1 8 Try.underlying22 I3.out Z3.out Z3'.out Z3''.out rfl (by decide) v1 k _ (by simp [Act.eval, Act.put]) HS5.out.o1 ⟨A1, 0, none⟩ 1 1 [.int .i64 (D.sh Q)] (by simp [Act.eval, Act.put]) rfl (lit_news HM5.out) (by simp [Value.oneCell']) (by omega) (by unfold maxLen; omega) (by omega) HS5.out.lt ?_
          intro u1 W6 hown hgrow hap
          have hs6 := HS5.out.grow1 (v' := u1) (by have e : .int .i64 (D.sh Q) = Value.int .i64 ((fun i => D.sh (qt f i)) k) := (by show _ = Value.int .i64 (D.sh (qt f k)); rw [HQK.out]); rw [← e]; exact hown) hgrow hap
          have HS6 := Lib.hid hs6
          have HK6 := Lib.hid (Keep.grow HK5.out HS5.out.lt HS5.out.o1 hgrow)
          have hg6 : Hid (Z0.heap.size ≤ W6.heap.size) := Nat.le_trans (hg5.out) hgrow.size
          have HM6 := Lib.hid (lit_grow HL5.out HZ5.out hgrow (fun e => by have := (HS0.out.o1.lt _ e).2; have := ha5.out; omega))
          have HN6 := Lib.hid (Nat.lt_of_lt_of_le HZ5.out hgrow.size)
          clear hown hgrow hap hs6
          refine ⟨HK6.out, ?_⟩
          try simp only [Act.put, List.setIfInBounds_toArray, List.set_cons_zero, List.set_cons_succ]
          refine wpAnyG2_take (i := 18) (v := ?_) (by kernel_rfl) rfl (by kernel_rfl) (by kernel_rfl) (by kernel_rfl) (fun _ _ _ h => h) (Or.inl ⟨by rfl, ?_⟩) HK6.out ?_
          rotate_left
          · rintro wS hS
            have s0 := hS.cell (b := zwa.v.heap.size) (i := 0) (Nat.le_refl _); rw [HC0.out] at s0
            have s1 := hS.cell (b := zwa.v.heap.size) (i := 1) (Nat.le_refl _); rw [HC1.out] at s1
            have s2 := hS.cell (b := w.heap.size) (i := 0) hob; rw [HB0.out] at s2
            have s3 := hS.cell (b := w.heap.size) (i := 1) hob; rw [HB1.out] at s3
            have s4 := hS.cell (b := b1) (i := of1 + Q) (Nat.le_of_lt hb1l); rw [HE1.out] at s4
            have s5 := hS.cell (b := b2) (i := of2 + Q) (Nat.le_of_lt hb2l); rw [HE2.out] at s5
            go_simp
            try (with_reducible rfl)
          try simp only [Act.put, List.setIfInBounds_toArray, List.set_cons_zero, List.set_cons_succ]
          refine wpAnyG2_one (i := 17) (by kernel_rfl) (by decide) (wpOp_plain rfl rfl ?_)
          refine wp_append_one (w := W6) rfl (.tmp 58) (.tmp 64) 22 rfl (zwa.v.heap.size + 1) 3 i3 _ 1 8 Try.underlying22 I3.out Z3.out Z3'.out Z3''.out rfl (by decide) v2 k _ (by simp [Act.eval, Act.put]) HS6.out.o2 ⟨A5, 0, none⟩ 1 1 [.int .i64 (D.mo Q)] (by simp [Act.eval, Act.put]) rfl (lit_news HM6.out) (by simp [Value.oneCell']) (by omega) (by unfold maxLen; omega) (by omega) HS6.out.lt ?_
          intro u2 W7 hown hgrow hap
          have hs7 := HS6.out.grow2 (v' := u2) (by have e : .int .i64 (D.mo Q) = Value.int .i64 ((fun i => D.mo (qt f i)) k) := (by show _ = Value.int .i64 (D.mo (qt f k)); rw [HQK.out]); rw [← e]; exact hown) hgrow hap
          have HS7 := Lib.hid hs7
          have HK7 := Lib.hid (Keep.grow HK6.out HS6.out.lt HS6.out.o2 hgrow)
          have hg7 : Hid (Z0.heap.size ≤ W7.heap.size) := Nat.le_trans (hg6.out) hgrow.size
          clear hown hgrow hap hs7
          refine ⟨HK7.out, ?_⟩
          try simp only [Act.put, List.setIfInBounds_toArray, List.set_cons_zero, List.set_cons_succ]
          obtain ⟨pu1, cu1, eu1, _⟩ := own_form HS7.out.o1
          obtain ⟨pu2, cu2, eu2, _⟩ := own_form HS7.out.o2
          subst eu1; subst eu2
          refine wpAnyG2_done (by kernel_rfl) ?_
          have m0 := HK7.out.cell (b := zwa.v.heap.size) (i := 0) (Nat.le_refl _); rw [HC0.out] at m0
          have m1 := HK7.out.cell (b := zwa.v.heap.size) (i := 1) (Nat.le_refl _); rw [HC1.out] at m1
          have mf : ∀ i, W7.frozen? ⟨zwa.v.heap.size, i, none⟩ = false := fun i => (HK7.out.frozen (b := zwa.v.heap.size) (i := i) (Nat.le_refl _)).trans (HCF.out i)
          obtain ⟨WE, hWE, d0, d1, df, hs5⟩ := Sb.store HS7.out m0 m1 mf
          have n1 : (W7.setCell ⟨zwa.v.heap.size, 0, none⟩ (.slice pu1 (k + 1) cu1)).cell? ⟨zwa.v.heap.size, 1, none⟩ = some v2 := (World.cell?_setCell_other _ _ _ _ (by simp)).trans m1
          have nf : ∀ i, (W7.setCell ⟨zwa.v.heap.size, 0, none⟩ (.slice pu1 (k + 1) cu1)).frozen? ⟨zwa.v.heap.size, i, none⟩ = false := fun i => by have := mf i; simpa using this
          have HD0 := Lib.hid d0; have HD1 := Lib.hid d1; have HDF := Lib.hid df; have HS5 := Lib.hid hs5
          clear d0 d1 df hs5
          refine wpAny_one (i := 19) (by kernel_rfl) ?_
          refine wpOp_plain rfl rfl ?_
          go_simp
          try simp only [Act.put, List.setIfInBounds_toArray, List.set_cons_zero, List.set_cons_succ]
          refine wpAny_one (i := 20) (by kernel_rfl) ?_
          refine wpOp_plain rfl rfl ?_
          go_simp
          try simp only [Act.put, List.setIfInBounds_toArray, List.set_cons_zero, List.set_cons_succ]
          refine wpAny_one (i := 21) (by kernel_rfl) ?_
          refine wpOp_plain rfl rfl ?_
          go_simp
          try simp only [Act.put, List.setIfInBounds_toArray, List.set_cons_zero, List.set_cons_succ]
          refine wpAny_end (by kernel_rfl) ?_
          try rw [hWE]
          clear m0 m1 mf n1 nf hWE
          obtain ⟨z5, hz5⟩ : ∃ z5 : Ext wa, WE = z5.v := ⟨⟨WE, bT zwa.b HS5.out.bl⟩, rfl⟩
          rw [hz5] at HD0 HD1 HDF HS5 ⊢
          clear hz5
          go_wp2
          go_roundw
          case rel => exact ⟨k + 1, by go_num, rfl, hlt, _, _, z5, rfl, HD0.out, HD1.out, HDF.out, HS5.out⟩
          case measure => first | (simp [intOf]; done) | (simp [intOf]; omega)
      ·
        refine wpOp_plain rfl rfl ?_
        go_simp
        have hl8 := lit_new Z0 (.int .i64 (D.mo Q)) 3
        have hs8 := HS0.out.alloc (Obj.cells #[.int .i64 (D.mo Q)] 3)
        have hk8 := Keep.below HK0.out HS0.out.lt (bA (Below.refl _ _) (Obj.cells #[.int .i64 (D.mo Q)] 3))
        have hz8 : Z0.heap.size < (Z0.alloc (Obj.cells #[.int .i64 (D.mo Q)] 3)).heap.size := by simp
        obtain ⟨A8, hA8⟩ : ∃ A, Z0.heap.size = A := ⟨_, rfl⟩
        obtain ⟨W8, hW8⟩ : ∃ W', Z0.alloc (Obj.cells #[.int .i64 (D.mo Q)] 3) = W' := ⟨_, rfl⟩
        rw [hW8] at hl8 hs8 hk8 hz8 ⊢
        rw [hA8] at hl8 hz8 ⊢
        have ha8 : Hid (Z0.heap.size ≤ A8) := by rw [← hA8]; exact Nat.le_refl _
        have HL8 := Lib.hid hl8; have HS8 := Lib.hid hs8; have HK8 := Lib.hid hk8; have HZ8 := Lib.hid hz8
        clear hl8 hs8 hk8 hz8 hW8
        refine ⟨HK8.out, ?_⟩
        try simp only [Act.put, List.setIfInBounds_toArray, List.set_cons_zero, List.set_cons_succ]
        have hg8 : Hid (Z0.heap.size ≤ W8.heap.size) := Nat.le_of_lt (Nat.lt_of_le_of_lt ha8.out HZ8.out)
        refine wpAnyG2_one (i := 7) (by kernel_rfl) (by decide) (wpOp_plain rfl rfl ?_)
        go_simp
        have hl9 := lit_new W8 (.int .i64 (D.sh Q)) 3
        have hs9 := HS8.out.alloc (Obj.cells #[.int .i64 (D.sh Q)] 3)
        have hk9 := Keep.below HK8.out HS8.out.lt (bA (Below.refl _ _) (Obj.cells #[.int .i64 (D.sh Q)] 3))
        have hz9 : W8.heap.size < (W8.alloc (Obj.cells #[.int .i64 (D.sh Q)] 3)).heap.size := by simp
        have hm9 := lit_below HL8.out HZ8.out (bA (Below.refl _ _) (Obj.cells #[.int .i64 (D.sh Q)] 3))
        have hn9 := Nat.lt_trans HZ8.out hz9
        obtain ⟨A9, hA9⟩ : ∃ A, W8.heap.size = A := ⟨_, rfl⟩
        obtain ⟨W9, hW9⟩ : ∃ W', W8.alloc (Obj.cells #[.int .i64 (D.sh Q)] 3) = W' := ⟨_, rfl⟩
        rw [hW9] at hl9 hs9 hk9 hz9 hm9 hn9 ⊢
        rw [hA9] at hl9 hz9 ⊢
        have ha9 : Hid (Z0.heap.size ≤ A9) := by rw [← hA9]; exact hg8.out
        have HL9 := Lib.hid hl9; have HS9 := Lib.hid hs9; have HK9 := Lib.hid hk9; have HZ9 := Lib.hid hz9
        have HM9 := Lib.hid hm9; have HN9 := Lib.hid hn9
        clear hm9 hn9
        clear hl9 hs9 hk9 hz9 hW9
        refine ⟨HK9.out, ?_⟩
        try simp only [Act.put, List.setIfInBounds_toArray, List.set_cons_zero, List.set_cons_succ]
        have hg9 : Hid (Z0.heap.size ≤ W9.heap.size) := Nat.le_of_lt (Nat.lt_of_le_of_lt ha9.out HZ9.out)
        refine wpAnyG2_one (i := 8) (by kernel_rfl) (by decide) (wpOp_plain rfl rfl ?_)
        refine wp_append_one (w := W9) rfl (.tmp 49) (.tmp 55) 22 rfl (zwa.v.heap.size + 1) 3 i3 _ 1 8 Try.underlying22 I3.out Z3.out Z3'.out Z3''.out rfl (by decide) v1 k _ (by simp [Act.eval, Act.put]) HS9.out.o1 ⟨A9, 0, none⟩ 1 1 [.int .i64 (D.sh Q)] (by simp [Act.eval, Act.put]) rfl (lit_news HL9.out) (by simp [Value.oneCell']) (by omega) (by unfold maxLen; omega) (by omega) HS9.out.lt ?_
        intro u1 W10 hown hgrow hap
        have hs10 := HS9.out.grow1 (v' := u1) (by have e : .int .i64 (D.sh Q) = Value.int .i64 ((fun i => D.sh (qt f i)) k) := (by show _ = Value.int .i64 (D.sh (qt f k)); rw [HQK.out]); rw [← e]; exact hown) hgrow hap
        have HS10 := Lib.hid hs10
        have HK10 := Lib.hid (Keep.grow HK9.out HS9.out.lt HS9.out.o1 hgrow)
        have hg10 : Hid (Z0.heap.size ≤ W10.heap.size) := Nat.le_trans (hg9.out) hgrow.size
        have HM10 := Lib.hid (lit_grow HM9.out HN9.out hgrow (fun e => by have := (HS0.out.o1.lt _ e).2; have := ha8.out; omega))
        have HN10 := Lib.hid (Nat.lt_of_lt_of_le HN9.out hgrow.size)
        clear hown hgrow hap hs10
        refine ⟨HK10.out, ?_⟩
        try simp only [Act.put, List.setIfInBounds_toArray, List.set_cons_zero, List.set_cons_succ]
        refine wpAnyG2_take (i := 18) (v := ?_) (by kernel_rfl) rfl (by kernel_rfl) (by kernel_rfl) (by kernel_rfl) (fun _ _ _ h => h) (Or.inl ⟨by rfl, ?_⟩) HK10.out ?_
        rotate_left
        · rintro wS hS
          have s0 := hS.cell (b := zwa.v.heap.size) (i := 0) (Nat.le_refl _); rw [HC0.out] at s0
          have s1 := hS.cell (b := zwa.v.heap.size) (i := 1) (Nat.le_refl _); rw [HC1.out] at s1
          have s2 := hS.cell (b := w.heap.size) (i := 0) hob; rw [HB0.out] at s2
          have s3 := hS.cell (b := w.heap.size) (i := 1) hob; rw [HB1.out] at s3
          have s4 := hS.cell (b := b1) (i := of1 + Q) (Nat.le_of_lt hb1l); rw [HE1.out] at s4
          have s5 := hS.cell (b := b2) (i := of2 + Q) (Nat.le_of_lt hb2l); rw [HE2.out] at s5
          go_simp
          try (with_reducible rfl)
        try simp only [Act.put, List.setIfInBounds_toArray, List.set_cons_zero, List.set_cons_succ]
        refine wpAnyG2_one (i := 17) (by kernel_rfl) (by decide) (wpOp_plain rfl rfl ?_)
        refine wp_append_one (w := W10) rfl (.tmp 58) (.tmp 64) 22 rfl (zwa.v.heap.size + 1) 3 i3 _ 1 8 Try.underlying22 I3.out Z3.out Z3'.out Z3''.out rfl (by decide) v2 k _ (by simp [Act.eval, Act.put]) HS10.out.o2 ⟨A8, 0, none⟩ 1 1 [.int .i64 (D.mo Q)] (by simp [Act.eval, Act.put]) rfl (lit_news HM10.out) (by simp [Value.oneCell']) (by omega) (by unfold maxLen; omega) (by omega) HS10.out.lt ?_
        intro u2 W11 hown hgrow hap
        have hs11 := HS10.out.grow2 (v' := u2) (by have e : .int .i64 (D.mo Q) = Value.int .i64 ((fun i => D.mo (qt f i)) k) := (by show _ = Value.int .i64 (D.mo (qt f k)); rw [HQK.out]); rw [← e]; exact hown) hgrow hap
        have HS11 := Lib.hid hs11
        have HK11 := Lib.hid (Keep.grow HK10.out HS10.out.lt HS10.out.o2 hgrow)
        have hg11 : Hid (Z0.heap.size ≤ W11.heap.size) := Nat.le_trans (hg10.out) hgrow.size
        clear hown hgrow hap hs11
        refine ⟨HK11.out, ?_⟩
        try simp only [Act.put, List.setIfInBounds_toArray, List.set_cons_zero, List.set_cons_succ]
        obtain ⟨pu1, cu1, eu1, _⟩ := own_form HS11.out.o1
        obtain ⟨pu2, cu2, eu2, _⟩ := own_form HS11.out.o2
        subst eu1; subst eu2
        refine wpAnyG2_done (by kernel_rfl) ?_
        have m0 := HK11.out.cell (b := zwa.v.heap.size) (i := 0) (Nat.le_refl _); rw [HC0.out] at m0
        have m1 := HK11.out.cell (b := zwa.v.heap.size) (i := 1) (Nat.le_refl _); rw [HC1.out] at m1
        have mf : ∀ i, W11.frozen? ⟨zwa.v.heap.size, i, none⟩ = false := fun i => (HK11.out.frozen (b := zwa.v.heap.size) (i := i) (Nat.le_refl _)).trans (HCF.out i)
        obtain ⟨WE, hWE, d0, d1, df, hs5⟩ := Sb.store HS11.out m0 m1 mf
        have n1 : (W11.setCell ⟨zwa.v.heap.size, 0, none⟩ (.slice pu1 (k + 1) cu1)).cell? ⟨zwa.v.heap.size, 1, none⟩ = some v2 := (World.cell?_setCell_other _ _ _ _ (by simp)).trans m1
        have nf : ∀ i, (W11.setCell ⟨zwa.v.heap.size, 0, none⟩ (.slice pu1 (k + 1) cu1)).frozen? ⟨zwa.v.heap.size, i, none⟩ = false := fun i => by have := mf i; simpa using this
        have HD0 := Lib.hid d0; have HD1 := Lib.hid d1; have HDF := Lib.hid df; have HS5 := Lib.hid hs5
        clear d0 d1 df hs5
        refine wpAny_one (i := 19) (by kernel_rfl) ?_
        refine wpOp_plain rfl rfl ?_
        go_simp
        try simp only [Act.put, List.setIfInBounds_toArray, List.set_cons_zero, List.set_cons_succ]
        refine wpAny_one (i := 20) (by kernel_rfl) ?_
        refine wpOp_plain rfl rfl ?_
        go_simp
        try simp only [Act.put, List.setIfInBounds_toArray, List.set_cons_zero, List.set_cons_succ]
        refine wpAny_one (i := 21) (by kernel_rfl) ?_
        refine wpOp_plain rfl rfl ?_
        go_simp
        try simp only [Act.put, List.setIfInBounds_toArray, List.set_cons_zero, List.set_cons_succ]
        refine wpAny_end (by kernel_rfl) ?_
        try rw [hWE]
        clear m0 m1 mf n1 nf hWE
        obtain ⟨z5, hz5⟩ : ∃ z5 : Ext wa, WE = z5.v := ⟨⟨WE, bT zwa.b HS5.out.bl⟩, rfl⟩
        rw [hz5] at HD0 HD1 HDF HS5 ⊢
        clear hz5
        go_wp2
        go_roundw
        case rel => exact ⟨k + 1, by go_num, rfl, hlt, _, _, z5, rfl, HD0.out, HD1.out, HDF.out, HS5.out⟩
        case measure => first | (simp [intOf]; done) | (simp [intOf]; omega)
    · obtain rfl : k = L := by omega
      obtain ⟨T, hT, hTe, hTv⟩ := sub_is HOK.out HQQ.out F
      have HTV := Lib.hid hTv
      rw [hTe]
      obtain ⟨p1, c1, e1, hn1⟩ := num_own HS.out.o1
      obtain ⟨p2, c2, e2, hn2⟩ := num_own HS.out.o2
      subst e1; subst e2
      have hVb := z.b
      obtain ⟨V, hV⟩ : ∃ V, z.v = V := ⟨_, rfl⟩
      rw [hV] at HS HC0 HC1 hVb hn1 hn2 ⊢
      have HVB := Lib.hid hVb
      clear hVb hV
      obtain ⟨zr, hzr⟩ := rebase V
      have HI_2 : Hid (∀ z : Ext V, BxIn z.v z.v.heap.size D p q) := fun z => HI_1.out (z.up HVB.out)
      have HL_2 : Hid (∀ z : Ext V, NumIn z.v z.v.heap.size k f lp) := fun z => HL_1.out (z.up HVB.out)
      have F0_2 : ∀ z : Ext V, z.v.cell? ⟨w.heap.size, 0, none⟩ = some (.slice p D.n c) := fun z => F0_1 (z.up HVB.out)
      have F1_2 : ∀ z : Ext V, z.v.cell? ⟨w.heap.size, 1, none⟩ = some (.slice q D.m d) := fun z => F1_1 (z.up HVB.out)
      have HW_2 : Hid (∀ z : Ext V, Below w.heap.size w z.v) := fun z => HW_1.out (z.up HVB.out)
      have Nga_2 : Hid (∀ z : Ext V, NumIn z.v z.v.heap.size D.n (gv D F) ga) := fun z => Nga_1.out (z.up HVB.out)
      clear HI_1 HL_1 F0_1 F1_1 HW_1 Nga_1
      have O0 : ∀ y : Ext V, y.v.cell? ⟨zwa.v.heap.size, 0, none⟩ = some (.slice p1 k c1) := fun y => (y.b.cell (p := ⟨zwa.v.heap.size, 0, none⟩) HS.out.lt).trans HC0.out
      have O1 : ∀ y : Ext V, y.v.cell? ⟨zwa.v.heap.size, 1, none⟩ = some (.slice p2 k c2) := fun y => (y.b.cell (p := ⟨zwa.v.heap.size, 1, none⟩) HS.out.lt).trans HC1.out
      have HSI : Hid (∀ y : Ext V, BxIn y.v y.v.heap.size (subB D f k) p1 p2) := fun y => ⟨hn1.bel y.b, hn2.bel y.b⟩
      have HSO := Lib.hid (sub_ok HOK.out HQQ.out)
      have HGS := Lib.hid (show ∀ y : Ext V, Calls Try.prog 47 #[.agg #[.slice p1 k c1, .slice p2 k c2], .int .i64 (T : Int)] y.v fun e w' => ∃ yy c', e = .returned (.tuple #[.slice yy k c', .bool true]) ∧ New y.v w' k (gv (subB D f k) T) yy from
        fun y => gaugesL_any (subB D f k) p1 p2 c1 c2 T y.v HSO.out (by omega) (HSI.out y))
      have j : decide ((k : Int) < (k : Int)) = false := by simp
      clear hn1 hn2 hT hTe hTv
      rw [hzr]
      clear hzr
      go_wp2_with fail
      refine (HGS.out _).mono ?_
      rintro e wb ⟨gb, gbc, rfl, hcgb⟩
      have HXwb := Lib.hid (bT zr.b hcgb.below); have HNgb0 := Lib.hid hcgb.num
      obtain ⟨zwb, hzwb⟩ := rebase wb
      clear hcgb
      have HI_3 : Hid (∀ z : Ext wb, BxIn z.v z.v.heap.size D p q) := fun z => HI_2.out (z.up HXwb.out)
      have HL_3 : Hid (∀ z : Ext wb, NumIn z.v z.v.heap.size k f lp) := fun z => HL_2.out (z.up HXwb.out)
      have F0_3 : ∀ z : Ext wb, z.v.cell? ⟨w.heap.size, 0, none⟩ = some (.slice p D.n c) := fun z => F0_2 (z.up HXwb.out)
      have F1_3 : ∀ z : Ext wb, z.v.cell? ⟨w.heap.size, 1, none⟩ = some (.slice q D.m d) := fun z => F1_2 (z.up HXwb.out)
      have HW_3 : Hid (∀ z : Ext wb, Below w.heap.size w z.v) := fun z => HW_2.out (z.up HXwb.out)
      have Nga_3 : Hid (∀ z : Ext wb, NumIn z.v z.v.heap.size D.n (gv D F) ga) := fun z => Nga_2.out (z.up HXwb.out)
      have O0_3 : ∀ z : Ext wb, z.v.cell? ⟨zwa.v.heap.size, 0, none⟩ = some (.slice p1 k c1) := fun z => O0 (z.up HXwb.out)
      clear HI_2 HL_2 F0_2 F1_2 HW_2 Nga_2 O0
      have Ngb_3 : Hid (∀ z : Ext wb, NumIn z.v z.v.heap.size k (gv (subB D f k) T) gb) := fun z => HNgb0.out.bel z.b
      rw [hzwb]; clear hzwb
      clear j O1
      go_wp2
      go_loopw [15] (fun i wr => ∃ k' : Nat, i = .int .i64 k' ∧ k' ≤ k ∧ ∃ y : Ext wb, wr = y.v) (fun i _ => k - (intOf i).toNat)
      case atStart => exact ⟨0, rfl, Nat.zero_le _, zwb, rfl⟩
      case round =>
        obtain ⟨k', rfl, hk', y, rfl⟩ := hrel
        by_cases hlt2 : k' < k
        · have hq := qt_lt HQQ.out hlt2
          have hv := HTV.out k' hlt2
          obtain ⟨Q, hQ⟩ : ∃ Q, qt f k' = Q := ⟨_, rfl⟩
          rw [hQ] at hq hv
          obtain ⟨hqn, hqe⟩ := hq
          obtain ⟨bl, ol, rfl, _, _⟩ := (HL_3.out y) (by omega)
          obtain ⟨ga0, gao, rfl, _, _⟩ := (Nga_3.out y) (by omega)
          obtain ⟨gb0, gbo, rfl, _, _⟩ := (Ngb_3.out y) (by omega)
          have E0 : ∀ z : Ext wb, z.v.cell? ⟨bl, ol + k', none⟩ = some (.int .i64 (Q : Int)) := fun z => by rw [← hqe]; exact ((HL_3.out z).cell hlt2).2
          have E1 : ∀ z : Ext wb, z.v.cell? ⟨ga0, gao + Q, none⟩ = some (.int .i64 (gv D F Q)) := fun z => ((Nga_3.out z).cell hqn).2
          have E2 : ∀ z : Ext wb, z.v.cell? ⟨gb0, gbo + k', none⟩ = some (.int .i64 (gv D F Q)) := fun z => by rw [← hv]; exact ((Ngb_3.out z).cell hlt2).2
          have hkm : (k' : Int) < (k : Int) := by omega
          have hqm : (Q : Int) < (D.n : Int) := by omega
          clear hqe hv hQ
          go_wp2
          refine quiet_e (by kernel_rfl) (by kernel_rfl) ?_
          repeat (first | go_big_quiet_step (fail) | quiet_step (fail))
          refine wpQuiet_nil ?_
          intro w6 hw6
          obtain ⟨y8, rfl⟩ := hw6
          go_wp2
          go_roundw
          case rel => exact ⟨k' + 1, by go_num, hlt2, y8, rfl⟩
          case measure => first | (simp [intOf]; done) | (simp [intOf]; omega)
        · have j3 : decide ((k' : Int) < (k : Int)) = false := by simp; omega
          go_wp2_with fail
          refine (quiet_x (works_ex _)).mono ?_
          rintro e w' ⟨rfl, y9, rfl⟩
          go_wp2
          go_ret
          exact ⟨rfl, HW_3.out y9⟩
theorem some_law (D : Bx) (p q : Option Addr) (c d : Nat) (fl : Int) (lp : Option Addr) (lc L : Nat) (f : Nat → Int) (w : World) (hn : D.n ≤ maxLen) (hm : D.m ≤ maxLen) (hi : BxIn w w.heap.size D p q) (hL : L ≤ maxLen) (hl : NumIn w w.heap.size L f lp) :
    Calls Try.prog 11 #[.agg #[.slice p D.n c, .slice q D.m d], .int .i64 fl, .slice lp L lc] w fun e w' => e = .returned (.bool true) ∧ Below w.heap.size w w' := by
  cases hr : rdy D fl with
  | false => exact some_out1 D p q c d fl lp lc L f w hn hm hi hL hl hr
  | true =>
    cases hq : ris f D.n L with
    | false => exact some_out2 D p q c d fl lp lc L f w hn hm hi hL hl hr hq
    | true =>
      obtain ⟨_, _, hok, F, rfl, hF⟩ := rdy_parts hr
      exact some_in D p q c d F lp lc L f w hi hL hl hr hq hok hF
end Go.Proofs.Ythbicbmlbblflaa
