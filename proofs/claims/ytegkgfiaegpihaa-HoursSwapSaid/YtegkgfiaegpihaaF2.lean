/- Rosters of hours: who finds: the choice of a street. -/
import Derived.Test.YtegkgfiaegpihaaF1

import Derived.Test.YtegkgfiaegpihaaX2

import Derived.Deep.DeepCutAuto

set_option linter.unusedSimpArgs false

set_option linter.unusedVariables false

namespace Go.Proofs.Ytegkgfiaegpihaa

open Go.RowKit

theorem wp_region_tailE {P : Program} {ops : Array Oper} {Q : Exit → Act → World → Prop} {w : World} {x : Ext w} (n r : Nat) {id : Nat} {a : Act} (hm : P.follows .mixedOrders = true) (hn : ops.size = n + r)
    (h : ∀ y : Ext w, wpAnyG2 P .any ops Q (fun w' => ∃ y : Ext w, w' = y.v) n r n (Array.replicate ops.size false) a y.v) : (Code.region id ops true).wp P Q a x.v :=
  wp_region_tail (fun w' => ∃ y : Ext w, w' = y.v) n r hm hn ⟨⟨x.v.drew, bd x.b⟩, rfl⟩ (fun _ => h ⟨x.v.drew, bd x.b⟩)
/-- what was found, asked for, wherever the map is the same -/
theorem MapOk.looks {D : Ro} {P : Pr} {w : World} {b : Nat} (h : MapOk D P w b) {L : Nat → Int} (hL : Rm L) :
    ∃ c ok, (ok = true → c = fV D P L) ∧ ∀ W : World, W.heap[b]? = w.heap[b]? → (Instr.lookup 102 (.map (some b)) (arr8 L) true).run Try.prog W = .ok (.tuple #[chE c, .bool ok]) W := by
  obtain ⟨es, clock, hb, he⟩ := h
  obtain ⟨kl, hkl⟩ := keyOf_room hL
  have hk : ∀ e ∈ es.toList, ∃ l, keyOf Try.prog 106 e.key = some l := fun e hm => by obtain ⟨M, hM, e1, _⟩ := he e hm; rw [e1]; exact keyOf_room hM
  by_cases hin : ∃ e0 ∈ es.toList, e0.key = arr8 L
  · obtain ⟨e0, hm0, hk0⟩ := hin
    refine ⟨fV D P L, true, fun _ => rfl, fun W hW => ?_⟩
    rcases roomKey.find W hkl es.toList hk with ⟨h1, h2⟩ | ⟨j, e1, h1, h2, h3⟩
    · exact absurd hk0 (h2 e0 hm0)
    · obtain ⟨M, hM, e4, e5⟩ := he e1 (List.mem_of_getElem? h2)
      have : M = L := arr8_inj hM hL (e4.symm.trans h3)
      subst this
      simp [Instr.lookup, run_underlying Try.underlying102, MapKept.run_getObj_map (hW.trans hb), roomKey.check W _ hkl, h1, e5, Result.andThen]
  · refine ⟨⟨0, 0, false⟩, false, (fun h => by cases h), fun W hW => ?_⟩
    rcases roomKey.find W hkl es.toList hk with ⟨h1, h2⟩ | ⟨j, e1, h1, h2, h3⟩
    · simp [Instr.lookup, run_underlying Try.underlying102, MapKept.run_getObj_map (hW.trans hb), roomKey.check W _ hkl, h1, zeroCh, Result.andThen, chE]
    · exact absurd ⟨e1, List.mem_of_getElem? h2, h3⟩ hin
/-- a street in a block -/
structure SbAt (w : World) (b : Nat) (h f t co : Int) : Prop where
  lt : b < w.heap.size
  c0 : w.cell? ⟨b, 0, none⟩ = some (.int .i64 h)
  c1 : w.cell? ⟨b, 1, none⟩ = some (.int .i64 f)
  c2 : w.cell? ⟨b, 2, none⟩ = some (.int .i64 t)
  c3 : w.cell? ⟨b, 3, none⟩ = some (.int .i64 co)
theorem SbAt.blk {w w' : World} {b : Nat} {h f t co : Int} (i : SbAt w b h f t co) (e : w'.heap[b]? = w.heap[b]?) : SbAt w' b h f t co := by
  refine ⟨?_, (World.cell?_of_block (a := ⟨b, 0, none⟩) e).trans i.c0, (World.cell?_of_block (a := ⟨b, 1, none⟩) e).trans i.c1, (World.cell?_of_block (a := ⟨b, 2, none⟩) e).trans i.c2, (World.cell?_of_block (a := ⟨b, 3, none⟩) e).trans i.c3⟩
  rcases Nat.lt_or_ge b w'.heap.size with h' | h'
  · exact h'
  · rw [Array.getElem?_eq_none h', Array.getElem?_eq_getElem i.lt] at e; cases e
theorem SbAt.new (w : World) (h f t co : Int) : SbAt (w.alloc (Obj.cells #[.int .i64 h, .int .i64 f, .int .i64 t, .int .i64 co] 43)) w.heap.size h f t co :=
  ⟨by simp, by go_simp, by go_simp, by go_simp, by go_simp⟩
/-- the state while a street's hours are gone through -/
structure LoopS (w0 : World) (D : Ro) (P : Pr) (p q : Option Addr) (c d : Nat) (pv : Value) (fb mb : Nat) (W : World) (s : Nat) (L : Nat → Int) (bx rb tb sb : Nat) (B : Ch) (wr : World) : Prop where
  f : Fin w0 D P p q c d pv fb mb wr
  g : Gr mb W wr
  a : ArAt wr bx L
  r : ChAt wr rb ⟨0, 0, false⟩
  t : ChAt wr tb B
  s : SbAt wr sb (D.hs s) (D.fr s) (D.to s) (D.co s)
  l : W.heap.size ≤ bx ∧ W.heap.size ≤ rb ∧ W.heap.size ≤ tb ∧ W.heap.size ≤ sb ∧ mb < W.heap.size ∧ fb < W.heap.size ∧ tb ≠ bx ∧ tb ≠ rb ∧ tb ≠ sb
theorem LoopS.gr {w0 : World} {D : Ro} {P : Pr} {p q : Option Addr} {c d : Nat} {pv : Value} {fb mb : Nat} {W : World} {s : Nat} {L : Nat → Int} {bx rb tb sb : Nat} {B : Ch} {A A' : World} (i : LoopS w0 D P p q c d pv fb mb W s L bx rb tb sb B A) (hg : Gr mb A A') (hm : MapOk D P A' mb) : LoopS w0 D P p q c d pv fb mb W s L bx rb tb sb B A' := by
  have hl := i.l
  have k : ∀ b, W.heap.size ≤ b → b < A.heap.size → A'.heap[b]? = A.heap[b]? := fun b h1 h2 => hg.block b h2 (by simp; omega)
  exact ⟨i.f.gr hg hm, i.g.trans hg, i.a.blk (k _ (by omega) i.a.lt), i.r.blk (k _ (by omega) i.r.lt), i.t.blk (k _ (by omega) i.t.lt), i.s.blk (k _ (by omega) i.s.lt), hl⟩
theorem LoopS.bel {w0 : World} {D : Ro} {P : Pr} {p q : Option Addr} {c d : Nat} {pv : Value} {fb mb : Nat} {W : World} {s : Nat} {L : Nat → Int} {bx rb tb sb : Nat} {B : Ch} {A A' : World} (i : LoopS w0 D P p q c d pv fb mb W s L bx rb tb sb B A) (hb : Below A.heap.size A A') : LoopS w0 D P p q c d pv fb mb W s L bx rb tb sb B A' :=
  i.gr (Gr.bel hb) (i.f.m.blk (hb.block mb i.f.m.lt))
theorem LoopS.put {w0 : World} {D : Ro} {P : Pr} {p q : Option Addr} {c d : Nat} {pv : Value} {fb mb : Nat} {W : World} {s : Nat} {L : Nat → Int} {bx rb tb sb : Nat} {B : Ch} {A : World} (i : LoopS w0 D P p q c d pv fb mb W s L bx rb tb sb B A) (C : Ch) : LoopS w0 D P p q c d pv fb mb W s L bx rb tb sb C (((A.setCell ⟨tb, 0, none⟩ (.int .i64 C.h)).setCell ⟨tb, 1, none⟩ (.int .i64 C.c)).setCell ⟨tb, 2, none⟩ (.bool C.no)) := by
  have hl := i.l
  have k : ∀ b, b ≠ tb → (((A.setCell ⟨tb, 0, none⟩ (.int .i64 C.h)).setCell ⟨tb, 1, none⟩ (.int .i64 C.c)).setCell ⟨tb, 2, none⟩ (.bool C.no)).heap[b]? = A.heap[b]? := fun b h => by
    rw [setCell_block h, setCell_block h, setCell_block h]
  exact ⟨((i.f.set (a := ⟨tb, 0, none⟩) (by simp; omega) (by simp; omega) _).set (a := ⟨tb, 1, none⟩) (by simp; omega) (by simp; omega) _).set (a := ⟨tb, 2, none⟩) (by simp; omega) (by simp; omega) _,
    ((i.g.set (p := ⟨tb, 0, none⟩) (by simp; omega) _).set (p := ⟨tb, 1, none⟩) (by simp; omega) _).set (p := ⟨tb, 2, none⟩) (by simp; omega) _,
    i.a.blk (k _ (by omega)), i.r.blk (k _ (by omega)), i.t.set, i.s.blk (k _ (by omega)), hl⟩
theorem better_no {B b : Ch} (h : b.no = true) : better B b = B := by unfold better; rw [if_neg (by rw [h]; simp)]
theorem better_first {B b : Ch} (h : b.no = false) (h2 : B.no = true) : better B b = b := by unfold better; rw [if_pos ⟨h, Or.inl h2⟩]
theorem better_less {B b : Ch} (h : b.no = false) (h2 : b.c < B.c) : better B b = b := by unfold better; rw [if_pos ⟨h, Or.inr h2⟩]
theorem better_not {B b : Ch} (h1 : B.no = false) (h2 : ¬ b.c < B.c) : better B b = B := by unfold better; rw [if_neg (by rw [h1]; simp [h2])]
set_option maxRecDepth 100000 in
set_option maxHeartbeats 4000000 in
theorem choose_zero (w0 : World) (D : Ro) (P : Pr) (p q : Option Addr) (c d gf : Nat) (caps : Array Value) (fb mb : Nat) (hD : OkP D) (hB : PrB D P) (hP : PrOk w0 D P gf caps) (hI : RoIn w0 w0.heap.size D p q) (s : Nat) (hs : s = D.m) : ChooseOk w0 D P p q c d gf caps fb mb 0 s := by
  intro W L hf hL hS
  subst hs
  obtain ⟨w1, hw1⟩ : ∃ w1, W.alloc (Obj.cells #[.int .i64 (L 0), .int .i64 (L 1), .int .i64 (L 2), .int .i64 (L 3), .int .i64 (L 4), .int .i64 (L 5), .int .i64 (L 6), .int .i64 (L 7)] 106) = w1 := ⟨_, rfl⟩
  have a1 : ArAt w1 W.heap.size L := by rw [← hw1]; exact ArAt.new W L
  have b1 : Below W.heap.size W w1 := by rw [← hw1]; exact bA (Below.refl _ _) _
  have z1 : w1.heap.size = W.heap.size + 1 := by rw [← hw1]; simp
  obtain ⟨rb, hrb⟩ : ∃ rb, w1.heap.size = rb := ⟨_, rfl⟩
  obtain ⟨w2, hw2⟩ : ∃ w2, w1.alloc (Obj.cells #[.int .i64 0, .int .i64 0, .bool false] 109) = w2 := ⟨_, rfl⟩
  have a2 : ChAt w2 rb ⟨0, 0, false⟩ := by rw [← hw2, ← hrb]; exact ChAt.new w1 ⟨0, 0, false⟩
  have b2 : Below w1.heap.size w1 w2 := by rw [← hw2]; exact bA (Below.refl _ _) _
  have b12 := bT b1 b2
  have f2 := hf.bel b12
  have HF2 := Lib.hid f2; have HA2 := Lib.hid a2; have HA1 := Lib.hid (a1.blk (b2.block _ a1.lt)); have HB12 := Lib.hid b12
  have HZ : Hid (W.heap.size < rb ∧ fb < W.heap.size ∧ mb < W.heap.size) := ⟨by omega, hf.ltf, hf.m.lt⟩
  have k1 := f2.c1
  have jm : ((D.m : Int) == (D.m : Int)) = true := by simp
  have g0 := a2.c0; have g1 := a2.c1; have g2 := a2.c2; have gf0 := a2.fz 0; have gf1 := a2.fz 1; have gf2 := a2.fz 2
  obtain ⟨w9, hw9⟩ : ∃ w9, ((w2.setCell ⟨rb, 0, none⟩ (.int .i64 0)).setCell ⟨rb, 1, none⟩ (.int .i64 0)).setCell ⟨rb, 2, none⟩ (.bool false) = w9 := ⟨_, rfl⟩
  have h9 : ChAt w9 rb ⟨0, 0, false⟩ := by rw [← hw9]; exact a2.set (d := ⟨0, 0, false⟩)
  have HG9 : Hid (Gr mb W w9) := by rw [← hw9]; exact (((Gr.bel b12).set (by have := HZ.out; simp; omega) _).set (by have := HZ.out; simp; omega) _).set (by have := HZ.out; simp; omega) _
  have HM9 : Hid (MapOk D P w9 mb) := by rw [← hw9]; exact (((f2.set (a := ⟨rb, 0, none⟩) (by have := HZ.out; simp; omega) (by have := HZ.out; simp; omega) _).set (a := ⟨rb, 1, none⟩) (by have := HZ.out; simp; omega) (by have := HZ.out; simp; omega) _).set (a := ⟨rb, 2, none⟩) (by have := HZ.out; simp; omega) (by have := HZ.out; simp; omega) _).m
  obtain ⟨_, q0, q1, q2, _⟩ := h9
  clear a1 b1 z1 a2 b2 b12 f2 hf hD hL hS hP hB hI
  simp only [arr8]
  go_enter Try.func95, Try.ntmps95
  try rw [hrb]
  go_wp2
  try rw [hw9]
  exact bodyPost_ret (v := .agg #[.int .i64 0, .int .i64 0, .bool false]) (by simp [results, Try.f95, go_sem, q0, q1, q2]) rfl ⟨rfl, HG9.out, HM9.out⟩
set_option maxRecDepth 100000 in
set_option maxHeartbeats 16000000 in
theorem choose_succ (w0 : World) (D : Ro) (P : Pr) (p q : Option Addr) (c d gf : Nat) (caps : Array Value) (fb mb : Nat) (hD : OkP D) (hB : PrB D P) (hP : PrOk w0 D P gf caps) (hI : RoIn w0 w0.heap.size D p q) (j s : Nat) (hs : s + (j + 1) = D.m) (HC : ChooseOk w0 D P p q c d gf caps fb mb j (s + 1)) : ChooseOk w0 D P p q c d gf caps fb mb (j + 1) s := by
  intro W L hf hL hS
  obtain ⟨w1, hw1⟩ : ∃ w1, W.alloc (Obj.cells #[.int .i64 (L 0), .int .i64 (L 1), .int .i64 (L 2), .int .i64 (L 3), .int .i64 (L 4), .int .i64 (L 5), .int .i64 (L 6), .int .i64 (L 7)] 106) = w1 := ⟨_, rfl⟩
  have a1 : ArAt w1 W.heap.size L := by rw [← hw1]; exact ArAt.new W L
  have b1 : Below W.heap.size W w1 := by rw [← hw1]; exact bA (Below.refl _ _) _
  have z1 : w1.heap.size = W.heap.size + 1 := by rw [← hw1]; simp
  obtain ⟨rb, hrb⟩ : ∃ rb, w1.heap.size = rb := ⟨_, rfl⟩
  obtain ⟨w2, hw2⟩ : ∃ w2, w1.alloc (Obj.cells #[.int .i64 0, .int .i64 0, .bool false] 109) = w2 := ⟨_, rfl⟩
  have a2 : ChAt w2 rb ⟨0, 0, false⟩ := by rw [← hw2, ← hrb]; exact ChAt.new w1 ⟨0, 0, false⟩
  have b2 : Below w1.heap.size w1 w2 := by rw [← hw2]; exact bA (Below.refl _ _) _
  have b12 := bT b1 b2
  have f2 := hf.bel b12
  have HF2 := Lib.hid f2; have HA2 := Lib.hid a2; have HA1 := Lib.hid (a1.blk (b2.block _ a1.lt)); have HB12 := Lib.hid b12
  have HZ : Hid (W.heap.size < rb ∧ fb < W.heap.size ∧ mb < W.heap.size) := ⟨by omega, hf.ltf, hf.m.lt⟩
  obtain ⟨cf, ok, hok, hlk⟩ := f2.m.looks hL
  have k1 := f2.c1; have k3 := f2.c3
  have jm : ((s : Int) == (D.m : Int)) = false := by simp; omega
  have F1 : ∀ y : Ext w2, y.v.cell? ⟨fb, 1, none⟩ = some (.slice q D.m d) := fun y => (f2.bel y.b).c1
  have F3 : ∀ y : Ext w2, y.v.cell? ⟨fb, 3, none⟩ = some (.map (some mb)) := fun y => (f2.bel y.b).c3
  have FA : ∀ y : Ext w2, ArAt y.v W.heap.size L := fun y => HA1.out.blk (y.b.block _ HA1.out.lt)
  have A0 := fun y => (FA y).c 0 (by omega); have A1 := fun y => (FA y).c 1 (by omega); have A2 := fun y => (FA y).c 2 (by omega); have A3 := fun y => (FA y).c 3 (by omega)
  have A4 := fun y => (FA y).c 4 (by omega); have A5 := fun y => (FA y).c 5 (by omega); have A6 := fun y => (FA y).c 6 (by omega); have A7 := fun y => (FA y).c 7 (by omega)
  have HFA := Lib.hid FA
  have LK : ∀ y : Ext w2, (Instr.lookup 102 (.map (some mb)) (.agg #[.int .i64 (L 0), .int .i64 (L 1), .int .i64 (L 2), .int .i64 (L 3), .int .i64 (L 4), .int .i64 (L 5), .int .i64 (L 6), .int .i64 (L 7)]) true).run Try.prog y.v = .ok (.tuple #[.agg #[.int .i64 cf.h, .int .i64 cf.c, .bool cf.no], .bool ok]) y.v := fun y => hlk y.v (y.b.block mb f2.m.lt)
  have HOK := Lib.hid hok
  have HI : Hid (∀ V : World, Below w0.heap.size w0 V → RoIn V V.heap.size D p q) := fun V hV => (hI.below hV).mono hV.size
  have HD := Lib.hid hD; have HB := Lib.hid hB; have HP := Lib.hid hP; have HCC := Lib.hid HC; have HL := Lib.hid hL; have HS := Lib.hid hS; have HSJ := Lib.hid hs
  have HFV : Hid (fV D P L = chV D P (j + 1) s L) := by rw [hS.fV]; congr 1; omega
  have hsm : s < D.m := by omega
  have hsi : (s : Int) < (D.m : Int) := by omega
  have hst := hD.st s hsm
  have hs6 : (s : Int) ≤ 6 := by have := hD.m; omega
  have HST := Lib.hid hst
  clear FA hlk hok a1 b1 z1 a2 b2 b12 f2 hf hD hL hS hP hB hI HC hs hst
  simp only [arr8]
  go_enter Try.func95, Try.ntmps95
  try rw [hrb]
  go_wp2_with fail
  clear k1 k3 hw1 hw2
  refine wp_region_lastE (w := w2) (x := ⟨w2, Below.refl _ _⟩) 11 (by kernel_rfl) rfl (fun y0 => ?_)
  refine wpAnyG_take (i := 0) (v := ?_) (by kernel_rfl) rfl (by kernel_rfl) (by kernel_rfl) (by kernel_rfl) (fun _ _ _ h => h) (Or.inl ⟨by rfl, ?_⟩) ⟨_, rfl⟩ ?_
  rotate_left
  · rintro wS ⟨yS, rfl⟩
    go_simp
    try (with_reducible rfl)
  try simp only [Act.put, List.setIfInBounds_toArray, List.set_cons_zero, List.set_cons_succ]
  refine wpAnyG_take (i := 1) (v := ?_) (by kernel_rfl) rfl (by kernel_rfl) (by kernel_rfl) (by kernel_rfl) (fun _ _ _ h => h) (Or.inl ⟨by rfl, ?_⟩) ⟨_, rfl⟩ ?_
  rotate_left
  · rintro wS ⟨yS, rfl⟩
    go_simp
    try (with_reducible rfl)
  try simp only [Act.put, List.setIfInBounds_toArray, List.set_cons_zero, List.set_cons_succ]
  refine wpAnyG_take (i := 2) (v := ?_) (by kernel_rfl) rfl (by kernel_rfl) (by kernel_rfl) (by kernel_rfl) (fun _ _ _ h => h) (Or.inl ⟨by rfl, ?_⟩) ⟨_, rfl⟩ ?_
  rotate_left
  · rintro wS ⟨yS, rfl⟩
    go_simp
    try (with_reducible rfl)
  try simp only [Act.put, List.setIfInBounds_toArray, List.set_cons_zero, List.set_cons_succ]
  refine wpAnyG_take (i := 3) (v := ?_) (by kernel_rfl) rfl (by kernel_rfl) (by kernel_rfl) (by kernel_rfl) (fun _ _ _ h => h) (Or.inl ⟨by rfl, ?_⟩) ⟨_, rfl⟩ ?_
  rotate_left
  · rintro wS ⟨yS, rfl⟩
    go_simp
    try (with_reducible rfl)
  try simp only [Act.put, List.setIfInBounds_toArray, List.set_cons_zero, List.set_cons_succ]
  refine wpAnyG_take (i := 4) (v := ?_) (by kernel_rfl) rfl (by kernel_rfl) (by kernel_rfl) (by kernel_rfl) (fun _ _ _ h => h) (Or.inl ⟨by rfl, ?_⟩) ⟨_, rfl⟩ ?_
  rotate_left
  · rintro wS ⟨yS, rfl⟩
    go_simp
    try (with_reducible rfl)
  try simp only [Act.put, List.setIfInBounds_toArray, List.set_cons_zero, List.set_cons_succ]
  refine wpAnyG_take (i := 5) (v := ?_) (by kernel_rfl) rfl (by kernel_rfl) (by kernel_rfl) (by kernel_rfl) (fun _ _ _ h => h) (Or.inl ⟨by rfl, ?_⟩) ⟨_, rfl⟩ ?_
  rotate_left
  · rintro wS ⟨yS, rfl⟩
    go_simp
    try (with_reducible rfl)
  try simp only [Act.put, List.setIfInBounds_toArray, List.set_cons_zero, List.set_cons_succ]
  refine wpAnyG_take (i := 6) (v := ?_) (by kernel_rfl) rfl (by kernel_rfl) (by kernel_rfl) (by kernel_rfl) (fun _ _ _ h => h) (Or.inl ⟨by rfl, ?_⟩) ⟨_, rfl⟩ ?_
  rotate_left
  · rintro wS ⟨yS, rfl⟩
    go_simp
    try (with_reducible rfl)
  try simp only [Act.put, List.setIfInBounds_toArray, List.set_cons_zero, List.set_cons_succ]
  refine wpAnyG_take (i := 7) (v := ?_) (by kernel_rfl) rfl (by kernel_rfl) (by kernel_rfl) (by kernel_rfl) (fun _ _ _ h => h) (Or.inl ⟨by rfl, ?_⟩) ⟨_, rfl⟩ ?_
  rotate_left
  · rintro wS ⟨yS, rfl⟩
    go_simp
    try (with_reducible rfl)
  try simp only [Act.put, List.setIfInBounds_toArray, List.set_cons_zero, List.set_cons_succ]
  refine wpAnyG_take (i := 8) (v := ?_) (by kernel_rfl) rfl (by kernel_rfl) (by kernel_rfl) (by kernel_rfl) (fun _ _ _ h => h) (Or.inl ⟨by rfl, ?_⟩) ⟨_, rfl⟩ ?_
  rotate_left
  · rintro wS ⟨yS, rfl⟩
    go_simp
    try (with_reducible rfl)
  try simp only [Act.put, List.setIfInBounds_toArray, List.set_cons_zero, List.set_cons_succ]
  refine wpAnyG_one (i := 9) (by kernel_rfl) (by decide) ?_
  refine wpOp_plain rfl rfl ?_
  go_simp
  obtain ⟨y1, hy1⟩ : ∃ zz : Ext w2, y0.v.alloc (Obj.cells #[.int .i64 0, .int .i64 0, .bool false] 109) = zz.v := ⟨⟨_, bA y0.b _⟩, rfl⟩
  have hc1 : ChAt y1.v y0.v.heap.size ⟨0, 0, false⟩ := by rw [← hy1]; exact ChAt.new y0.v ⟨0, 0, false⟩
  obtain ⟨cb, hcb⟩ : ∃ cb, y0.v.heap.size = cb := ⟨_, rfl⟩
  have hcl : w2.heap.size ≤ cb := by rw [← hcb]; exact y0.b.size
  rw [hcb] at hc1
  rw [hy1]
  try rw [hcb]
  refine ⟨⟨_, rfl⟩, ?_⟩
  try simp only [Act.put, List.setIfInBounds_toArray, List.set_cons_zero, List.set_cons_succ]
  refine wpAnyG_one (i := 10) (by kernel_rfl) (by decide) ?_
  refine wpOp_plain rfl rfl ?_
  have g0 := hc1.c0; have g1 := hc1.c1; have g2 := hc1.c2; have gf0 := hc1.fz 0; have gf1 := hc1.fz 1; have gf2 := hc1.fz 2
  go_simp
  obtain ⟨y5, hw5⟩ : ∃ y5 : Ext w2, ((y1.v.setCell ⟨cb, 0, none⟩ (.int .i64 cf.h)).setCell ⟨cb, 1, none⟩ (.int .i64 cf.c)).setCell ⟨cb, 2, none⟩ (.bool cf.no) = y5.v := ⟨⟨_, bS (bS (bS y1.b (by simpa using hcl) _) (by simpa using hcl) _) (by simpa using hcl) _⟩, rfl⟩
  have hc5 : ChAt y5.v cb cf := by rw [← hw5]; exact hc1.set
  have hb5 := y5.b
  try rw [hw5]
  clear g0 g1 g2 gf0 gf1 gf2 hw5 hy1 hcb
  refine ⟨⟨_, rfl⟩, ?_⟩
  try simp only [Act.put, List.setIfInBounds_toArray, List.set_cons_zero, List.set_cons_succ]
  refine wpAnyG_done (by kernel_rfl) (by kernel_rfl) (wpOp_plain rfl rfl ?_)
  go_simp
  try simp only [Act.put, List.setIfInBounds_toArray, List.set_cons_zero, List.set_cons_succ]
  obtain ⟨w5, hw5⟩ : ∃ w5, y5.v = w5 := ⟨_, rfl⟩
  rw [hw5] at hc5 hb5 ⊢
  clear hw5 y5
  have HF5 := Lib.hid (HF2.out.bel hb5); have HA5 := Lib.hid (HA1.out.blk (hb5.block _ HA1.out.lt)); have HR5 := Lib.hid (HA2.out.blk (hb5.block _ HA2.out.lt)); have HB5 := Lib.hid (bT HB12.out hb5)
  have HC5 := Lib.hid hc5
  have HCL := Lib.hid hcl
  clear hb5 hc1 hcl A0 A1 A2 A3 A4 A5 A6 A7 LK F1 F3
  cases ok with
  | true =>
    have hcf := HOK.out rfl
    have c0 := hc5.c0; have c1 := hc5.c1; have c2 := hc5.c2
    have g0 := HR5.out.c0; have g1 := HR5.out.c1; have g2 := HR5.out.c2; have gf0 := HR5.out.fz 0; have gf1 := HR5.out.fz 1; have gf2 := HR5.out.fz 2
    obtain ⟨w9, hw9⟩ : ∃ w9, ((w5.setCell ⟨rb, 0, none⟩ (.int .i64 cf.h)).setCell ⟨rb, 1, none⟩ (.int .i64 cf.c)).setCell ⟨rb, 2, none⟩ (.bool cf.no) = w9 := ⟨_, rfl⟩
    have h9 : ChAt w9 rb cf := by rw [← hw9]; exact HR5.out.set
    have HG9 : Hid (Gr mb W w9) := by rw [← hw9]; exact (((Gr.bel HB5.out).set (by have := HZ.out; simp; omega) _).set (by have := HZ.out; simp; omega) _).set (by have := HZ.out; simp; omega) _
    have HM9 : Hid (MapOk D P w9 mb) := by rw [← hw9]; exact (((HF5.out.set (a := ⟨rb, 0, none⟩) (by have := HZ.out; simp; omega) (by have := HZ.out; simp; omega) _).set (a := ⟨rb, 1, none⟩) (by have := HZ.out; simp; omega) (by have := HZ.out; simp; omega) _).set (a := ⟨rb, 2, none⟩) (by have := HZ.out; simp; omega) (by have := HZ.out; simp; omega) _).m
    obtain ⟨_, q0, q1, q2, _⟩ := h9
    have HR : Hid (chV D P (j + 1) s L = cf) := by rw [hcf, HFV.out]; rfl
    clear hc5 hcf
    go_wp2
    try rw [hw9]
    refine bodyPost_ret (v := .agg #[.int .i64 cf.h, .int .i64 cf.c, .bool cf.no]) (by simp [results, Try.f95, go_sem, q0, q1, q2]) rfl ⟨?_, HG9.out, HM9.out⟩
    rw [HR.out]
    rfl
  | false =>
    clear HOK HC5 HCL hc5
    obtain ⟨b, o, rfl, hbl, hcs⟩ := (HI.out w5 HF5.out.b).st (by omega)
    have e0 := hcs.c0 s hsm; have e1 := hcs.c1 s hsm; have e2 := hcs.c2 s hsm; have e3 := hcs.c3 s hsm
    have k1 := HF5.out.c1
    clear hcs hbl
    obtain ⟨tb, htb⟩ : ∃ tb, w5.heap.size = tb := ⟨_, rfl⟩
    obtain ⟨w6, hw6⟩ : ∃ w6, w5.alloc (Obj.cells #[.int .i64 0, .int .i64 0, .bool true] 109) = w6 := ⟨_, rfl⟩
    have t6 : ChAt w6 tb ⟨0, 0, true⟩ := by rw [← hw6, ← htb]; exact ChAt.new w5 ⟨0, 0, true⟩
    have b6 : Below w5.heap.size w5 w6 := by rw [← hw6]; exact bA (Below.refl _ _) _
    obtain ⟨sb, hsb⟩ : ∃ sb, w6.heap.size = sb := ⟨_, rfl⟩
    have z6 : w6.heap.size = w5.heap.size + 1 := by rw [← hw6]; simp
    obtain ⟨w7, hw7⟩ : ∃ w7, w6.alloc (Obj.cells #[.int .i64 (D.hs s), .int .i64 (D.fr s), .int .i64 (D.to s), .int .i64 (D.co s)] 43) = w7 := ⟨_, rfl⟩
    have s7 : SbAt w7 sb (D.hs s) (D.fr s) (D.to s) (D.co s) := by rw [← hw7, ← hsb]; exact SbAt.new w6 _ _ _ _
    have b7 : Below w6.heap.size w6 w7 := by rw [← hw7]; exact bA (Below.refl _ _) _
    have b57 := bT b6 b7
    have HLS : Hid (LoopS w0 D P p (some ⟨b, o, none⟩) c d (.func (.func gf) #[] caps) fb mb W s L W.heap.size rb tb sb ⟨0, 0, true⟩ w7) := ⟨HF5.out.bel b57, (Gr.bel HB5.out).trans (Gr.bel b57), HA5.out.blk (b57.block _ HA5.out.lt), HR5.out.blk (b57.block _ HR5.out.lt), t6.blk (b7.block _ t6.lt), s7, by
      have h1 := HZ.out; have h2 := HB5.out.size; have h3 := HA5.out.lt; have h4 := HR5.out.lt
      refine ⟨Nat.le_refl _, by omega, by omega, by omega, by omega, by omega, by omega, by omega, by omega⟩⟩
    have m0 := t6.c0; have m1 := t6.c1; have m2 := t6.c2
    have q1 := s7.c1
    have e0' := (b6.cell (p := ⟨b, o + s * 4, none⟩) (World.block_lt_of_cell? _ _ e0)).trans e0
    have e1' := (b6.cell (p := ⟨b, o + s * 4 + 1, none⟩) (World.block_lt_of_cell? _ _ e1)).trans e1
    have e2' := (b6.cell (p := ⟨b, o + s * 4 + 2, none⟩) (World.block_lt_of_cell? _ _ e2)).trans e2
    have e3' := (b6.cell (p := ⟨b, o + s * 4 + 3, none⟩) (World.block_lt_of_cell? _ _ e3)).trans e3
    have k1' := (b6.cell (p := ⟨fb, 1, none⟩) HF5.out.ltf).trans k1
    obtain ⟨a, ha⟩ : ∃ a : Nat, D.fr s = (a : Int) := ⟨(D.fr s).toNat, by have := HST.out.fr; omega⟩
    have HWD : Hid ((wid D s : Int) = D.to s - a + 1 ∧ (a : Int) ≤ D.to s ∧ D.to s < D.n ∧ (D.fr s).toNat = a) := by
      have h1 := HST.out.fr; have h2 := HST.out.to; have h3 := HST.out.ft
      refine ⟨by unfold wid; omega, by omega, by omega, by omega⟩
    have HAA := Lib.hid ha
    clear t6 b6 z6 s7 b7 b57 e0 e1 e2 e3 k1 ha
    go_wp2
    try rw [htb]
    try rw [hsb]
    clear hw6 hw7 htb hsb e0' e1' e2' e3' k1' m0 m1 m2 q1
    go_loopw [11] (fun v wr => ∃ x : Nat, v = .int .i64 (x : Int) ∧ a ≤ x ∧ x ≤ a + wid D s ∧ LoopS w0 D P p (some ⟨b, o, none⟩) c d (.func (.func gf) #[] caps) fb mb W s L W.heap.size rb tb sb (upTo (fun h => wiV (chV D P j (s + 1)) P s h L) a (x - a)) wr) (fun v _ => (D.to s + 1 - intOf v).toNat)
    case atStart => exact ⟨a, by rw [HAA.out], Nat.le_refl _, by omega, by rw [Nat.sub_self]; exact HLS.out⟩
    case round =>
      clear HLS
      obtain ⟨x, rfl, hx1, hx2, hls⟩ := hrel
      have HL5 := Lib.hid hls; clear hls
      have hx9 : (x : Int) ≤ 9 := by have := HWD.out; have := HD.out.n; omega
      obtain ⟨B, hB⟩ : ∃ B, upTo (fun h => wiV (chV D P j (s + 1)) P s h L) a (x - a) = B := ⟨_, rfl⟩
      have HBV := Lib.hid hB
      rw [hB] at HL5
      clear hB
      have FX1 : ∀ y : Ext wr, LoopS w0 D P p (some ⟨b, o, none⟩) c d (.func (.func gf) #[] caps) fb mb W s L W.heap.size rb tb sb B y.v := fun y => HL5.out.bel y.b
      by_cases hlt : (x : Int) ≤ D.to s
      · have hxn : x < D.n := by have := HWD.out; omega
        have jx : decide ((x : Int) ≤ D.to s) = true := by simpa using hlt
        obtain ⟨C, hC⟩ : ∃ C, wiV (chV D P j (s + 1)) P s x L = C := ⟨_, rfl⟩
        have HWI : Hid (∀ V, Fin w0 D P p (some ⟨b, o, none⟩) c d (.func (.func gf) #[] caps) fb mb V → Calls Try.prog 108 #[.pointer (some ⟨fb, 0, none⟩), .int .i64 (s : Int), .int .i64 (x : Int), .agg #[.int .i64 (L 0), .int .i64 (L 1), .int .i64 (L 2), .int .i64 (L 3), .int .i64 (L 4), .int .i64 (L 5), .int .i64 (L 6), .int .i64 (L 7)]] V fun e V' => e = .returned (.agg #[.int .i64 C.h, .int .i64 C.c, .bool C.no]) ∧ Gr mb V V' ∧ MapOk D P V' mb) := fun V hV => by
          have := with_any w0 D P p (some ⟨b, o, none⟩) c d gf caps fb mb j s HD.out HB.out HP.out (by have := HSJ.out; omega) HCC.out V L x hV HL.out HS.out hxn
          rw [hC] at this
          exact this
        have HNX : Hid (upTo (fun h => wiV (chV D P j (s + 1)) P s h L) a (x + 1 - a) = better B C) := by
          rw [show x + 1 - a = (x - a) + 1 by omega]
          simp only [upTo]
          rw [HBV.out, show a + (x - a) = x by omega, hC]; rfl
        have u2 := HL5.out.s.c2
        have A0 := HL5.out.a.c 0 (by omega); have A1 := HL5.out.a.c 1 (by omega); have A2 := HL5.out.a.c 2 (by omega); have A3 := HL5.out.a.c 3 (by omega)
        have A4 := HL5.out.a.c 4 (by omega); have A5 := HL5.out.a.c 5 (by omega); have A6 := HL5.out.a.c 6 (by omega); have A7 := HL5.out.a.c 7 (by omega)
        clear hC FX1
        go_wp2_with fail
        refine (HWI.out _ HL5.out.f).mono ?_
        rintro e w8 ⟨rfl, hg8, hm8⟩
        have HL8 := Lib.hid (HL5.out.gr hg8 hm8)
        clear hg8 hm8 HWI A0 A1 A2 A3 A4 A5 A6 A7 u2 HL5
        obtain ⟨vb, hvb⟩ : ∃ vb, w8.heap.size = vb := ⟨_, rfl⟩
        obtain ⟨w9, hw9⟩ : ∃ w9, w8.alloc (Obj.cells #[.int .i64 C.h, .int .i64 C.c, .bool C.no] 109) = w9 := ⟨_, rfl⟩
        have v9 : ChAt w9 vb C := by rw [← hw9, ← hvb]; exact ChAt.new w8 C
        have hl9 : LoopS w0 D P p (some ⟨b, o, none⟩) c d (.func (.func gf) #[] caps) fb mb W s L W.heap.size rb tb sb B w9 := by rw [← hw9]; exact HL8.out.bel (bA (Below.refl _ _) _)
        have HL9 := Lib.hid hl9
        have u0 := v9.c0; have u1 := v9.c1; have u2 := v9.c2
        have t0 := hl9.t.c0; have t1 := hl9.t.c1; have t2 := hl9.t.c2; have tf0 := hl9.t.fz 0; have tf1 := hl9.t.fz 1; have tf2 := hl9.t.fz 2
        clear v9 hl9
        rcases (show C.no = true ∨ C.no = false by cases C.no <;> simp) with hCn | hCn
        · skip
          have HN : Hid (LoopS w0 D P p (some ⟨b, o, none⟩) c d (.func (.func gf) #[] caps) fb mb W s L W.heap.size rb tb sb (upTo (fun h => wiV (chV D P j (s + 1)) P s h L) a (x + 1 - a)) w9) := by rw [HNX.out, better_no hCn]; exact HL9.out
          rw [hCn] at u2
          clear hCn
          go_wp2
          try rw [hvb]
          go_roundw
          case rel => exact ⟨x + 1, by go_num, by omega, by have := HWD.out; omega, HN.out⟩
          case measure => simp [intOf]; omega
        · skip
          have hputted : LoopS w0 D P p (some ⟨b, o, none⟩) c d (.func (.func gf) #[] caps) fb mb W s L W.heap.size rb tb sb C (((w9.setCell ⟨tb, 0, none⟩ (.int .i64 C.h)).setCell ⟨tb, 1, none⟩ (.int .i64 C.c)).setCell ⟨tb, 2, none⟩ (.bool C.no)) := HL9.out.put C
          rw [hCn] at u2 hputted
          have HPU := Lib.hid hputted; clear hputted
          rcases (show B.no = true ∨ B.no = false by cases B.no <;> simp) with hBn | hBn
          · skip
            have HN : Hid (LoopS w0 D P p (some ⟨b, o, none⟩) c d (.func (.func gf) #[] caps) fb mb W s L W.heap.size rb tb sb (upTo (fun h => wiV (chV D P j (s + 1)) P s h L) a (x + 1 - a)) (((w9.setCell ⟨tb, 0, none⟩ (.int .i64 C.h)).setCell ⟨tb, 1, none⟩ (.int .i64 C.c)).setCell ⟨tb, 2, none⟩ (.bool false))) := by rw [HNX.out, better_first hCn hBn]; exact HPU.out
            rw [hBn] at t2
            clear hCn hBn
            go_wp2
            try rw [hvb]
            go_roundw
            case rel => exact ⟨x + 1, by go_num, by omega, by have := HWD.out; omega, HN.out⟩
            case measure => simp [intOf]; omega
          · skip
            rw [hBn] at t2
            by_cases hcl : C.c < B.c
            · have HN : Hid (LoopS w0 D P p (some ⟨b, o, none⟩) c d (.func (.func gf) #[] caps) fb mb W s L W.heap.size rb tb sb (upTo (fun h => wiV (chV D P j (s + 1)) P s h L) a (x + 1 - a)) (((w9.setCell ⟨tb, 0, none⟩ (.int .i64 C.h)).setCell ⟨tb, 1, none⟩ (.int .i64 C.c)).setCell ⟨tb, 2, none⟩ (.bool false))) := by rw [HNX.out, better_less hCn hcl]; exact HPU.out
              have jc : decide (C.c < B.c) = true := by simpa using hcl
              clear hCn hBn
              go_wp2
              try rw [hvb]
              go_roundw
              case rel => exact ⟨x + 1, by go_num, by omega, by have := HWD.out; omega, HN.out⟩
              case measure => simp [intOf]; omega
            · have HN : Hid (LoopS w0 D P p (some ⟨b, o, none⟩) c d (.func (.func gf) #[] caps) fb mb W s L W.heap.size rb tb sb (upTo (fun h => wiV (chV D P j (s + 1)) P s h L) a (x + 1 - a)) w9) := by rw [HNX.out, better_not hBn hcl]; exact HL9.out
              have jc : decide (C.c < B.c) = false := by simpa using hcl
              clear hCn hBn
              go_wp2
              try rw [hvb]
              go_roundw
              case rel => exact ⟨x + 1, by go_num, by omega, by have := HWD.out; omega, HN.out⟩
              case measure => simp [intOf]; omega
      · have jx : decide ((x : Int) ≤ D.to s) = false := by simpa using hlt
        have hxe : x = a + wid D s := by have := HWD.out; omega
        have hBc : B = chV D P (j + 1) s L := by
          rw [← HBV.out, hxe, Nat.add_sub_cancel_left]
          simp only [chV]
          rw [HWD.out.2.2.2]
        have HBF : Hid (B = fV D P L) := by rw [HFV.out]; exact hBc
        have HBC := Lib.hid hBc
        have u2 := HL5.out.s.c2
        have F3 : ∀ y : Ext wr, y.v.cell? ⟨fb, 3, none⟩ = some (.map (some mb)) := fun y => (FX1 y).f.c3
        have A0 := fun y => (FX1 y).a.c 0 (by omega); have A1 := fun y => (FX1 y).a.c 1 (by omega); have A2 := fun y => (FX1 y).a.c 2 (by omega); have A3 := fun y => (FX1 y).a.c 3 (by omega)
        have A4 := fun y => (FX1 y).a.c 4 (by omega); have A5 := fun y => (FX1 y).a.c 5 (by omega); have A6 := fun y => (FX1 y).a.c 6 (by omega); have A7 := fun y => (FX1 y).a.c 7 (by omega)
        have T0 := fun y => (FX1 y).t.c0; have T1 := fun y => (FX1 y).t.c1; have T2 := fun y => (FX1 y).t.c2
        have HFX := Lib.hid FX1
        clear FX1 hxe hBc
        go_wp2_with fail
        refine wp_region_lastE (w := wr) (x := ⟨wr, Below.refl _ _⟩) 6 (by kernel_rfl) rfl (fun y0 => ?_)
        refine wpAnyG_take (i := 0) (v := ?_) (by kernel_rfl) rfl (by kernel_rfl) (by kernel_rfl) (by kernel_rfl) (fun _ _ _ h => h) (Or.inl ⟨by rfl, ?_⟩) ⟨_, rfl⟩ ?_
        rotate_left
        · rintro wS ⟨yS, rfl⟩
          go_simp
          try (with_reducible rfl)
        try simp only [Act.put, List.setIfInBounds_toArray, List.set_cons_zero, List.set_cons_succ]
        refine wpAnyG_take (i := 1) (v := ?_) (by kernel_rfl) rfl (by kernel_rfl) (by kernel_rfl) (by kernel_rfl) (fun _ _ _ h => h) (Or.inl ⟨by rfl, ?_⟩) ⟨_, rfl⟩ ?_
        rotate_left
        · rintro wS ⟨yS, rfl⟩
          go_simp
          try (with_reducible rfl)
        try simp only [Act.put, List.setIfInBounds_toArray, List.set_cons_zero, List.set_cons_succ]
        refine wpAnyG_take (i := 2) (v := ?_) (by kernel_rfl) rfl (by kernel_rfl) (by kernel_rfl) (by kernel_rfl) (fun _ _ _ h => h) (Or.inl ⟨by rfl, ?_⟩) ⟨_, rfl⟩ ?_
        rotate_left
        · rintro wS ⟨yS, rfl⟩
          go_simp
          try (with_reducible rfl)
        try simp only [Act.put, List.setIfInBounds_toArray, List.set_cons_zero, List.set_cons_succ]
        refine wpAnyG_take (i := 3) (v := ?_) (by kernel_rfl) rfl (by kernel_rfl) (by kernel_rfl) (by kernel_rfl) (fun _ _ _ h => h) (Or.inl ⟨by rfl, ?_⟩) ⟨_, rfl⟩ ?_
        rotate_left
        · rintro wS ⟨yS, rfl⟩
          go_simp
          try (with_reducible rfl)
        try simp only [Act.put, List.setIfInBounds_toArray, List.set_cons_zero, List.set_cons_succ]
        refine wpAnyG_take (i := 4) (v := ?_) (by kernel_rfl) rfl (by kernel_rfl) (by kernel_rfl) (by kernel_rfl) (fun _ _ _ h => h) (Or.inl ⟨by rfl, ?_⟩) ⟨_, rfl⟩ ?_
        rotate_left
        · rintro wS ⟨yS, rfl⟩
          go_simp
          try (with_reducible rfl)
        try simp only [Act.put, List.setIfInBounds_toArray, List.set_cons_zero, List.set_cons_succ]
        refine wpAnyG_take (i := 5) (v := ?_) (by kernel_rfl) rfl (by kernel_rfl) (by kernel_rfl) (by kernel_rfl) (fun _ _ _ h => h) (Or.inl ⟨by rfl, ?_⟩) ⟨_, rfl⟩ ?_
        rotate_left
        · rintro wS ⟨yS, rfl⟩
          go_simp
          try (with_reducible rfl)
        try simp only [Act.put, List.setIfInBounds_toArray, List.set_cons_zero, List.set_cons_succ]
        obtain ⟨wm, hwm, hmm, hgm⟩ := (HFX.out y0).f.m.store HL.out
        rw [← HBF.out] at hwm
        simp only [arr8, chE] at hwm
        refine wpAnyG_done (by kernel_rfl) (by kernel_rfl) (wpOp_plain rfl rfl ?_)
        go_simp
        have hlm := (HFX.out y0).gr hgm hmm
        have HLM := Lib.hid hlm
        have t0 := hlm.t.c0; have t1 := hlm.t.c1; have t2 := hlm.t.c2
        have g0 := hlm.r.c0; have g1 := hlm.r.c1; have g2 := hlm.r.c2; have gf0 := hlm.r.fz 0; have gf1 := hlm.r.fz 1; have gf2 := hlm.r.fz 2
        obtain ⟨w9, hw9⟩ : ∃ w9, ((wm.setCell ⟨rb, 0, none⟩ (.int .i64 B.h)).setCell ⟨rb, 1, none⟩ (.int .i64 B.c)).setCell ⟨rb, 2, none⟩ (.bool B.no) = w9 := ⟨_, rfl⟩
        have h9 : ChAt w9 rb B := by rw [← hw9]; exact hlm.r.set
        have HG9 : Hid (Gr mb W w9) := by rw [← hw9]; exact ((hlm.g.set (by have := HZ.out; simp; omega) _).set (by have := HZ.out; simp; omega) _).set (by have := HZ.out; simp; omega) _
        have HM9 : Hid (MapOk D P w9 mb) := by rw [← hw9]; exact (((hlm.f.set (a := ⟨rb, 0, none⟩) (by have := HZ.out; simp; omega) (by have := HZ.out; simp; omega) _).set (a := ⟨rb, 1, none⟩) (by have := HZ.out; simp; omega) (by have := HZ.out; simp; omega) _).set (a := ⟨rb, 2, none⟩) (by have := HZ.out; simp; omega) (by have := HZ.out; simp; omega) _).m
        obtain ⟨_, q0, q1, q2, _⟩ := h9
        clear hlm hwm hmm hgm F3 A0 A1 A2 A3 A4 A5 A6 A7 T0 T1 T2 u2
        go_wp2
        try rw [hw9]
        refine bodyPost_ret (v := .agg #[.int .i64 B.h, .int .i64 B.c, .bool B.no]) (by simp [results, Try.f95, go_sem, q0, q1, q2]) rfl ⟨?_, HG9.out, HM9.out⟩
        rw [← HBC.out]
        rfl
end Go.Proofs.Ytegkgfiaegpihaa
