/- Rosters of hours: small functions, and rosters in memory. -/
import Derived.Test.YtegkgfiaegpihaaChecked

import Derived.Test.YtegkgfiaegpihaaM1

import Derived.WalkKit

import Derived.WalkSpells

import Derived.WalkLawsBesides

import Derived.BigQuiet

import Derived.Deep.QuietTactic

import Derived.Deep.RegionHeld3

import Derived.IntWalk

import Derived.Lib.Hide

import Derived.RowKit3

import Derived.WalkSmall

import Derived.Deep.Light

set_option linter.unusedSimpArgs false

set_option linter.unusedVariables false

namespace Go.Proofs.Ytegkgfiaegpihaa

open Go.RowKit

theorem bA {a w : World} (h : Below a.heap.size a w) (o : Obj) : Below a.heap.size a (w.alloc o) := h.alloc h.size o
theorem bT {a b c : World} (h : Below a.heap.size a b) (k : Below b.heap.size b c) : Below a.heap.size a c := h.trans (k.mono h.size)
theorem bD {a w : World} (h : Below a.heap.size a w) (n : Nat) : Below a.heap.size a (w.drewN n) := ⟨h.os, h.tape, h.output, h.size, h.block⟩
theorem bd {a w : World} (h : Below a.heap.size a w) : Below a.heap.size a w.drew := ⟨h.os, h.tape, h.output, h.size, h.block⟩
theorem bS {a w : World} (h : Below a.heap.size a w) {p : Addr} (hp : a.heap.size ≤ p.block) (u : Value) : Below a.heap.size a (w.setCell p u) := h.setCell hp u
theorem bdL {w w' : World} (h : Below w.drew.heap.size w.drew w') : Below w.heap.size w w' := ⟨h.os, h.tape, h.output, h.size, h.block⟩

/-- a world that came out of another one by making memory alone -/
structure Ext (w : World) where
  v : World
  b : Below w.heap.size w v
def Ext.up {w w2 : World} (h : Below w.heap.size w w2) (x : Ext w2) : Ext w := ⟨x.v, bT h x.b⟩
instance ext_some (w : World) : Nonempty (Ext w) := ⟨⟨w, Below.refl _ _⟩⟩
theorem quiet_lit {P : Program} {id : Nat} {Q : Exit → Act → World → Prop} {a : Act} {w : World} {l : List Oper} (hm : P.follows .mixedOrders = true) (hB : Region.lexB .any l.toArray = true)
    (h : wpQuiet P l.toArray (fun w' => ∃ x : Ext w, w' = x.v) (fun a' => ∀ w', (∃ x : Ext w, w' = x.v) → Q .normal a' w') l a) : (Code.region id l.toArray true).wp P Q a w :=
  wp_region_quiet (C := fun w' => ∃ x : Ext w, w' = x.v) hm hB ⟨⟨w.drew, bd (Below.refl _ _)⟩, rfl⟩ (by simpa using h)
theorem quiet_x {P : Program} {f : FuncId} {args : Array Value} {w : World} {x : Ext w} {v : Value} (h : Calls P f args x.v fun e w' => e = .returned v ∧ Below x.v.heap.size x.v w') :
    Calls P f args x.v fun e w' => e = .returned v ∧ ∃ y : Ext w, w' = y.v := h.mono fun _ w' ⟨he, hb⟩ => ⟨he, ⟨w', bT x.b hb⟩, rfl⟩
theorem quiet_s {P : Program} {f : FuncId} {args : Array Value} {w : World} {x : Ext w} {v : Value} (h : Calls P f args x.v fun e w' => e = .returned v ∧ x.v = w') :
    Calls P f args x.v fun e w' => e = .returned v ∧ ∃ y : Ext w, w' = y.v := h.mono fun _ w' ⟨he, hb⟩ => ⟨he, x, hb.symm⟩
theorem quiet_l {P : Program} {f : FuncId} {args : Array Value} {w : World} {n : Nat} {v : Value}
    (h : Calls P f args (w.drewN n) fun e w' => e = .returned v ∧ w.drewN n = w') : Calls P f args (w.drewN n) fun e w'' => e = .returned v ∧ ∃ m, w'' = w.drewN m :=
  h.mono fun _ _ ⟨he, hm⟩ => ⟨he, n, hm.symm⟩
theorem ret_b {a b : Bool} (h : a = b) : Ending.returned (.bool a) = .returned (.bool b) := by rw [h]
theorem ret_i {a b : Int} (h : a = b) : Ending.returned (.int .i64 a) = .returned (.int .i64 b) := by rw [h]

structure StAt (w : World) (b o : Nat) (D : Ro) : Prop where
  c0 : ∀ k, k < D.m → w.cell? ⟨b, o + k * 4, none⟩ = some (.int .i64 (D.hs k))
  c1 : ∀ k, k < D.m → w.cell? ⟨b, o + k * 4 + 1, none⟩ = some (.int .i64 (D.fr k))
  c2 : ∀ k, k < D.m → w.cell? ⟨b, o + k * 4 + 2, none⟩ = some (.int .i64 (D.to k))
  c3 : ∀ k, k < D.m → w.cell? ⟨b, o + k * 4 + 3, none⟩ = some (.int .i64 (D.co k))
theorem StAt.below {w w' : World} {K b o : Nat} {D : Ro} (h : StAt w b o D) (hb : Below K w w') (hl : b < K) : StAt w' b o D :=
  ⟨fun k hk => (hb.cell hl).trans (h.c0 k hk), fun k hk => (hb.cell hl).trans (h.c1 k hk), fun k hk => (hb.cell hl).trans (h.c2 k hk), fun k hk => (hb.cell hl).trans (h.c3 k hk)⟩
/-- l numbers lie at an address -/
def NumAt (w : World) (b o : Nat) (l : Nat) (f : Nat → Int) : Prop := ∀ k, k < l → w.cell? ⟨b, o + k, none⟩ = some (.int .i64 (f k))
theorem NumAt.below {w w' : World} {K b o l : Nat} {f : Nat → Int} (h : NumAt w b o l f) (hb : Below K w w') (hl : b < K) : NumAt w' b o l f := fun k hk => (hb.cell hl).trans (h k hk)
/-- a slice of l numbers lies below block K -/
def NumIn (w : World) (K : Nat) (l : Nat) (f : Nat → Int) (q : Option Addr) : Prop := 0 < l → ∃ b o, q = some ⟨b, o, none⟩ ∧ b < K ∧ NumAt w b o l f
theorem NumIn.below {w w' : World} {K l : Nat} {f : Nat → Int} {q : Option Addr} (h : NumIn w K l f q) (hb : Below K w w') : NumIn w' K l f q :=
  fun hs => let ⟨b, o, e, l, a⟩ := h hs; ⟨b, o, e, l, a.below hb l⟩
theorem NumIn.mono {w : World} {K K' l : Nat} {f : Nat → Int} {q : Option Addr} (h : NumIn w K l f q) (hb : K ≤ K') : NumIn w K' l f q :=
  fun hs => let ⟨b, o, e, l, a⟩ := h hs; ⟨b, o, e, Nat.lt_of_lt_of_le l hb, a⟩
theorem NumIn.bel {w w' : World} {l : Nat} {f : Nat → Int} {q : Option Addr} (h : NumIn w w.heap.size l f q) (hb : Below w.heap.size w w') : NumIn w' w'.heap.size l f q := (h.below hb).mono hb.size
theorem NumIn.cell {w : World} {K l b o : Nat} {f : Nat → Int} (h : NumIn w K l f (some ⟨b, o, none⟩)) {k : Nat} (hk : k < l) : b < K ∧ w.cell? ⟨b, o + k, none⟩ = some (.int .i64 (f k)) := by
  obtain ⟨b', o', e, hl, hc⟩ := h (by omega)
  cases e
  exact ⟨hl, hc k hk⟩
/-- the roster lies in w below block K: its two slices' addresses are p and q -/
structure RoIn (w : World) (K : Nat) (D : Ro) (p q : Option Addr) : Prop where
  rm : NumIn w K D.n D.rm p
  st : 0 < D.m → ∃ b o, q = some ⟨b, o, none⟩ ∧ b < K ∧ StAt w b o D
theorem RoIn.below {w w' : World} {K : Nat} {D : Ro} {p q : Option Addr} (h : RoIn w K D p q) (hb : Below K w w') : RoIn w' K D p q :=
  ⟨h.rm.below hb, fun hs => let ⟨b, o, e, l, a⟩ := h.st hs; ⟨b, o, e, l, a.below hb l⟩⟩
theorem RoIn.mono {w : World} {K K' : Nat} {D : Ro} {p q : Option Addr} (h : RoIn w K D p q) (hb : K ≤ K') : RoIn w K' D p q :=
  ⟨h.rm.mono hb, fun hs => let ⟨b, o, e, l, a⟩ := h.st hs; ⟨b, o, e, Nat.lt_of_lt_of_le l hb, a⟩⟩
theorem RoIn.bel {w w' : World} {D : Ro} {p q : Option Addr} (h : RoIn w w.heap.size D p q) (hb : Below w.heap.size w w') : RoIn w' w'.heap.size D p q := (h.below hb).mono hb.size
theorem RoIn.c0 {w : World} {K b o : Nat} {D : Ro} {p : Option Addr} (h : RoIn w K D p (some ⟨b, o, none⟩)) {k : Nat} (hk : k < D.m) : w.cell? ⟨b, o + k * 4, none⟩ = some (.int .i64 (D.hs k)) := by
  obtain ⟨b', o', e, _, hc⟩ := h.st (by omega); cases e; exact hc.c0 k hk
theorem RoIn.c1 {w : World} {K b o : Nat} {D : Ro} {p : Option Addr} (h : RoIn w K D p (some ⟨b, o, none⟩)) {k : Nat} (hk : k < D.m) : w.cell? ⟨b, o + k * 4 + 1, none⟩ = some (.int .i64 (D.fr k)) := by
  obtain ⟨b', o', e, _, hc⟩ := h.st (by omega); cases e; exact hc.c1 k hk
theorem RoIn.c2 {w : World} {K b o : Nat} {D : Ro} {p : Option Addr} (h : RoIn w K D p (some ⟨b, o, none⟩)) {k : Nat} (hk : k < D.m) : w.cell? ⟨b, o + k * 4 + 2, none⟩ = some (.int .i64 (D.to k)) := by
  obtain ⟨b', o', e, _, hc⟩ := h.st (by omega); cases e; exact hc.c2 k hk
theorem RoIn.c3 {w : World} {K b o : Nat} {D : Ro} {p : Option Addr} (h : RoIn w K D p (some ⟨b, o, none⟩)) {k : Nat} (hk : k < D.m) : w.cell? ⟨b, o + k * 4 + 3, none⟩ = some (.int .i64 (D.co k)) := by
  obtain ⟨b', o', e, _, hc⟩ := h.st (by omega); cases e; exact hc.c3 k hk
theorem RoIn.bl {w : World} {K b o : Nat} {D : Ro} {p : Option Addr} (h : RoIn w K D p (some ⟨b, o, none⟩)) (hk : 0 < D.m) : b < K := by
  obtain ⟨b', o', e, hl, hc⟩ := h.st hk; cases e; exact hl
theorem rebase (w : World) : ∃ z : Ext w, w = z.v := ⟨⟨w, Below.refl _ _⟩, rfl⟩
theorem box_ro (w : World) (p q : Option Addr) (n m c d : Nat) :
    ∃ (w1 : World) (x : Ext w1), w.alloc (Obj.cells #[Value.slice p n c, Value.slice q m d] 25) = x.v ∧ Below w.heap.size w w1 ∧ w1.heap.size = w.heap.size + 1 ∧
      (∀ x : Ext w1, x.v.cell? ⟨w.heap.size, 0, none⟩ = some (.slice p n c)) ∧
      (∀ x : Ext w1, x.v.cell? ⟨w.heap.size, 1, none⟩ = some (.slice q m d)) ∧ (∀ (x : Ext w1) i, x.v.frozen? ⟨w.heap.size, i, none⟩ = false) := by
  have h0 : (w.alloc (Obj.cells #[Value.slice p n c, Value.slice q m d] 25)).cell? ⟨w.heap.size, 0, none⟩ = some (.slice p n c) := by go_simp
  have h1 : (w.alloc (Obj.cells #[Value.slice p n c, Value.slice q m d] 25)).cell? ⟨w.heap.size, 1, none⟩ = some (.slice q m d) := by go_simp
  have hf : ∀ i, (w.alloc (Obj.cells #[Value.slice p n c, Value.slice q m d] 25)).frozen? ⟨w.heap.size, i, none⟩ = false := fun i => by go_simp
  exact ⟨_, ⟨_, Below.refl _ _⟩, rfl, bA (Below.refl _ _) _, by simp, fun x => (x.b.cell (p := ⟨w.heap.size, 0, none⟩) (by simp)).trans h0, fun x => (x.b.cell (p := ⟨w.heap.size, 1, none⟩) (by simp)).trans h1, fun x i => (x.b.frozen (p := ⟨w.heap.size, i, none⟩) (by simp)).trans (hf i)⟩
theorem box_st (w : World) (a b c d : Int) :
    ∃ (w1 : World) (x : Ext w1), w.alloc (Obj.cells #[Value.int .i64 a, Value.int .i64 b, Value.int .i64 c, Value.int .i64 d] 43) = x.v ∧ Below w.heap.size w w1 ∧ w1.heap.size = w.heap.size + 1 ∧
      (∀ x : Ext w1, x.v.cell? ⟨w.heap.size, 0, none⟩ = some (.int .i64 a)) ∧
      (∀ x : Ext w1, x.v.cell? ⟨w.heap.size, 1, none⟩ = some (.int .i64 b)) ∧
      (∀ x : Ext w1, x.v.cell? ⟨w.heap.size, 2, none⟩ = some (.int .i64 c)) ∧
      (∀ x : Ext w1, x.v.cell? ⟨w.heap.size, 3, none⟩ = some (.int .i64 d)) ∧ (∀ (x : Ext w1) i, x.v.frozen? ⟨w.heap.size, i, none⟩ = false) := by
  have h0 : (w.alloc (Obj.cells #[Value.int .i64 a, Value.int .i64 b, Value.int .i64 c, Value.int .i64 d] 43)).cell? ⟨w.heap.size, 0, none⟩ = some (.int .i64 a) := by go_simp
  have h1 : (w.alloc (Obj.cells #[Value.int .i64 a, Value.int .i64 b, Value.int .i64 c, Value.int .i64 d] 43)).cell? ⟨w.heap.size, 1, none⟩ = some (.int .i64 b) := by go_simp
  have h2 : (w.alloc (Obj.cells #[Value.int .i64 a, Value.int .i64 b, Value.int .i64 c, Value.int .i64 d] 43)).cell? ⟨w.heap.size, 2, none⟩ = some (.int .i64 c) := by go_simp
  have h3 : (w.alloc (Obj.cells #[Value.int .i64 a, Value.int .i64 b, Value.int .i64 c, Value.int .i64 d] 43)).cell? ⟨w.heap.size, 3, none⟩ = some (.int .i64 d) := by go_simp
  have hf : ∀ i, (w.alloc (Obj.cells #[Value.int .i64 a, Value.int .i64 b, Value.int .i64 c, Value.int .i64 d] 43)).frozen? ⟨w.heap.size, i, none⟩ = false := fun i => by go_simp
  exact ⟨_, ⟨_, Below.refl _ _⟩, rfl, bA (Below.refl _ _) _, by simp, fun x => (x.b.cell (p := ⟨w.heap.size, 0, none⟩) (by simp)).trans h0, fun x => (x.b.cell (p := ⟨w.heap.size, 1, none⟩) (by simp)).trans h1, fun x => (x.b.cell (p := ⟨w.heap.size, 2, none⟩) (by simp)).trans h2, fun x => (x.b.cell (p := ⟨w.heap.size, 3, none⟩) (by simp)).trans h3, fun x i => (x.b.frozen (p := ⟨w.heap.size, i, none⟩) (by simp)).trans (hf i)⟩
theorem box_one (w : World) (a : Int) :
    ∃ (w1 : World) (x : Ext w1), w.alloc (Obj.cells #[Value.int .i64 a] 3) = x.v ∧ Below w.heap.size w w1 ∧ w1.heap.size = w.heap.size + 1 ∧
      (∀ x : Ext w1, x.v.cell? ⟨w.heap.size, 0, none⟩ = some (.int .i64 a)) ∧ (∀ (x : Ext w1) i, x.v.frozen? ⟨w.heap.size, i, none⟩ = false) := by
  have h0 : (w.alloc (Obj.cells #[Value.int .i64 a] 3)).cell? ⟨w.heap.size, 0, none⟩ = some (.int .i64 a) := by go_simp
  have hf : ∀ i, (w.alloc (Obj.cells #[Value.int .i64 a] 3)).frozen? ⟨w.heap.size, i, none⟩ = false := fun i => by go_simp
  exact ⟨_, ⟨_, Below.refl _ _⟩, rfl, bA (Below.refl _ _) _, by simp, fun x => (x.b.cell (p := ⟨w.heap.size, 0, none⟩) (by simp)).trans h0, fun x i => (x.b.frozen (p := ⟨w.heap.size, i, none⟩) (by simp)).trans (hf i)⟩
theorem box_pair (w : World) (a b : Int) :
    ∃ (w1 : World) (x : Ext w1), w.alloc (Obj.cells #[Value.int .i64 a, Value.int .i64 b] 55) = x.v ∧ Below w.heap.size w w1 ∧ w1.heap.size = w.heap.size + 1 ∧
      (∀ x : Ext w1, x.v.cell? ⟨w.heap.size, 0, none⟩ = some (.int .i64 a)) ∧
      (∀ x : Ext w1, x.v.cell? ⟨w.heap.size, 1, none⟩ = some (.int .i64 b)) ∧ (∀ (x : Ext w1) i, x.v.frozen? ⟨w.heap.size, i, none⟩ = false) := by
  have h0 : (w.alloc (Obj.cells #[Value.int .i64 a, Value.int .i64 b] 55)).cell? ⟨w.heap.size, 0, none⟩ = some (.int .i64 a) := by go_simp
  have h1 : (w.alloc (Obj.cells #[Value.int .i64 a, Value.int .i64 b] 55)).cell? ⟨w.heap.size, 1, none⟩ = some (.int .i64 b) := by go_simp
  have hf : ∀ i, (w.alloc (Obj.cells #[Value.int .i64 a, Value.int .i64 b] 55)).frozen? ⟨w.heap.size, i, none⟩ = false := fun i => by go_simp
  exact ⟨_, ⟨_, Below.refl _ _⟩, rfl, bA (Below.refl _ _) _, by simp, fun x => (x.b.cell (p := ⟨w.heap.size, 0, none⟩) (by simp)).trans h0, fun x => (x.b.cell (p := ⟨w.heap.size, 1, none⟩) (by simp)).trans h1, fun x i => (x.b.frozen (p := ⟨w.heap.size, i, none⟩) (by simp)).trans (hf i)⟩
theorem box_span (w : World) (a b : Int) :
    ∃ (w1 : World) (x : Ext w1), w.alloc (Obj.cells #[Value.int .i64 a, Value.int .i64 b] 34) = x.v ∧ Below w.heap.size w w1 ∧ w1.heap.size = w.heap.size + 1 ∧
      (∀ x : Ext w1, x.v.cell? ⟨w.heap.size, 0, none⟩ = some (.int .i64 a)) ∧
      (∀ x : Ext w1, x.v.cell? ⟨w.heap.size, 1, none⟩ = some (.int .i64 b)) ∧ (∀ (x : Ext w1) i, x.v.frozen? ⟨w.heap.size, i, none⟩ = false) := by
  have h0 : (w.alloc (Obj.cells #[Value.int .i64 a, Value.int .i64 b] 34)).cell? ⟨w.heap.size, 0, none⟩ = some (.int .i64 a) := by go_simp
  have h1 : (w.alloc (Obj.cells #[Value.int .i64 a, Value.int .i64 b] 34)).cell? ⟨w.heap.size, 1, none⟩ = some (.int .i64 b) := by go_simp
  have hf : ∀ i, (w.alloc (Obj.cells #[Value.int .i64 a, Value.int .i64 b] 34)).frozen? ⟨w.heap.size, i, none⟩ = false := fun i => by go_simp
  exact ⟨_, ⟨_, Below.refl _ _⟩, rfl, bA (Below.refl _ _) _, by simp, fun x => (x.b.cell (p := ⟨w.heap.size, 0, none⟩) (by simp)).trans h0, fun x => (x.b.cell (p := ⟨w.heap.size, 1, none⟩) (by simp)).trans h1, fun x i => (x.b.frozen (p := ⟨w.heap.size, i, none⟩) (by simp)).trans (hf i)⟩
theorem box_nilr (w : World)  :
    ∃ (w1 : World) (x : Ext w1), w.alloc (Obj.cells #[Value.slice none 0 0, Value.slice none 0 0] 25) = x.v ∧ Below w.heap.size w w1 ∧ w1.heap.size = w.heap.size + 1 ∧
      (∀ x : Ext w1, x.v.cell? ⟨w.heap.size, 0, none⟩ = some (.slice none 0 0)) ∧
      (∀ x : Ext w1, x.v.cell? ⟨w.heap.size, 1, none⟩ = some (.slice none 0 0)) ∧ (∀ (x : Ext w1) i, x.v.frozen? ⟨w.heap.size, i, none⟩ = false) := by
  have h0 : (w.alloc (Obj.cells #[Value.slice none 0 0, Value.slice none 0 0] 25)).cell? ⟨w.heap.size, 0, none⟩ = some (.slice none 0 0) := by go_simp
  have h1 : (w.alloc (Obj.cells #[Value.slice none 0 0, Value.slice none 0 0] 25)).cell? ⟨w.heap.size, 1, none⟩ = some (.slice none 0 0) := by go_simp
  have hf : ∀ i, (w.alloc (Obj.cells #[Value.slice none 0 0, Value.slice none 0 0] 25)).frozen? ⟨w.heap.size, i, none⟩ = false := fun i => by go_simp
  exact ⟨_, ⟨_, Below.refl _ _⟩, rfl, bA (Below.refl _ _) _, by simp, fun x => (x.b.cell (p := ⟨w.heap.size, 0, none⟩) (by simp)).trans h0, fun x => (x.b.cell (p := ⟨w.heap.size, 1, none⟩) (by simp)).trans h1, fun x i => (x.b.frozen (p := ⟨w.heap.size, i, none⟩) (by simp)).trans (hf i)⟩

theorem within1_any (n lo hi : Int) (w : World) :
    Calls Try.prog 21 #[.int .i64 n, .int .i64 lo, .int .i64 hi] w fun e w' => e = .returned (.bool (within n lo hi)) ∧ w = w' := by
  go_enter Try.func21, Try.ntmps21
  go_wp2
  · go_ret
    have h : lo ≤ n := by assumption
    exact ⟨ret_b (within_eq h).symm, rfl⟩
  · go_ret
    have h : n < lo := by assumption
    exact ⟨ret_b (within_lo h).symm, rfl⟩
theorem within_any (n lo hi : Int) (w : World) :
    Calls Try.prog 70 #[.int .i64 n, .int .i64 lo, .int .i64 hi] w fun e w' => e = .returned (.bool (within n lo hi)) ∧ w = w' := by
  go_enter Try.func70, Try.ntmps70
  go_wp2_with (go_at_call 21; refine (within1_any _ _ _ _).mono ?_; rintro e w' ⟨rfl, rfl⟩)
  go_ret
  exact ⟨rfl, rfl⟩
theorem isFrom_any (n lo hi : Int) (w : World) :
    Calls Try.prog 100 #[.int .i64 n, .int .i64 lo, .int .i64 hi] w fun e w' => e = .returned (.bool (within n lo hi)) ∧ w = w' := by
  go_enter Try.func100, Try.ntmps100
  go_wp2
  · go_ret
    have h : lo ≤ n := by assumption
    exact ⟨ret_b (within_eq h).symm, rfl⟩
  · go_ret
    have h : n < lo := by assumption
    exact ⟨ret_b (within_lo h).symm, rfl⟩
theorem isHourR_any (D : Ro) (p q : Option Addr) (c d : Nat) (k : Int) (w : World) (hn : D.n ≤ maxLen) :
    Calls Try.prog 27 #[.agg #[.slice p D.n c, .slice q D.m d], .int .i64 k] w fun e w' => e = .returned (.bool (isH D k)) ∧ Below w.heap.size w w' := by
  obtain ⟨w1, x, hw1, hb1, hz1, F0, F1, _⟩ := box_ro w p q D.n D.m c d
  have HB := Lib.hid hb1
  clear hb1 hz1
  unfold maxLen at hn
  go_enter Try.func27, Try.ntmps27
  go_wp2_with (go_at_call 70; refine (within_any _ _ _ _).mono ?_; rintro e w' ⟨rfl, rfl⟩)
  go_ret
  exact ⟨rfl, bT HB.out x.b⟩
theorem isStreetR_any (D : Ro) (p q : Option Addr) (c d : Nat) (k : Int) (w : World) (hn : D.m ≤ maxLen) :
    Calls Try.prog 29 #[.agg #[.slice p D.n c, .slice q D.m d], .int .i64 k] w fun e w' => e = .returned (.bool (isS D k)) ∧ Below w.heap.size w w' := by
  obtain ⟨w1, x, hw1, hb1, hz1, F0, F1, _⟩ := box_ro w p q D.n D.m c d
  have HB := Lib.hid hb1
  clear hb1 hz1
  unfold maxLen at hn
  go_enter Try.func29, Try.ntmps29
  go_wp2_with (go_at_call 70; refine (within_any _ _ _ _).mono ?_; rintro e w' ⟨rfl, rfl⟩)
  go_ret
  exact ⟨rfl, bT HB.out x.b⟩
theorem isHour_any (D : Ro) (p q : Option Addr) (c d : Nat) (k : Int) (w : World) :
    Calls Try.prog 80 #[.agg #[.slice p D.n c, .slice q D.m d], .int .i64 k] w fun e w' => e = .returned (.bool (isH D k)) ∧ Below w.heap.size w w' := by
  obtain ⟨w1, x, hw1, hb1, hz1, F0, F1, _⟩ := box_ro w p q D.n D.m c d
  have HB := Lib.hid hb1
  clear hb1 hz1
  go_enter Try.func80, Try.ntmps80
  go_wp2
  all_goals
    go_ret
    refine ⟨ret_b ?_, bT HB.out x.b⟩
    clear HB F0 F1 hw1; go_light; rw [Bool.eq_iff_iff]; simp only [isH, within_iff, decide_eq_true_eq]; (first | omega | (simp; omega))
theorem isStreet_any (D : Ro) (p q : Option Addr) (c d : Nat) (k : Int) (w : World) :
    Calls Try.prog 78 #[.agg #[.slice p D.n c, .slice q D.m d], .int .i64 k] w fun e w' => e = .returned (.bool (isS D k)) ∧ Below w.heap.size w w' := by
  obtain ⟨w1, x, hw1, hb1, hz1, F0, F1, _⟩ := box_ro w p q D.n D.m c d
  have HB := Lib.hid hb1
  clear hb1 hz1
  go_enter Try.func78, Try.ntmps78
  go_wp2
  all_goals
    go_ret
    refine ⟨ret_b ?_, bT HB.out x.b⟩
    clear HB F0 F1 hw1; go_light; rw [Bool.eq_iff_iff]; simp only [isS, within_iff, decide_eq_true_eq]; (first | omega | (simp; omega))
end Go.Proofs.Ytegkgfiaegpihaa
