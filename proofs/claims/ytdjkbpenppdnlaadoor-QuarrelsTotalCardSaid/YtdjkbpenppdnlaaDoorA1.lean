/- Towns with worlds: small functions, and towns in memory. -/
import Derived.Test.YtdjkbpenppdnlaaDoorChecked

import Derived.Test.YtdjkbpenppdnlaaDoorM2

import Derived.WalkKit

import Derived.WalkSpells

import Derived.WalkLawsBesides

import Derived.BigQuiet

import Derived.Deep.QuietTactic

import Derived.Deep.RegionHeld3

import Derived.IntWalk

import Derived.Lib.Hide

import Derived.RowKit3

import Derived.WalkSmall

import Derived.Deep.Light

set_option linter.unusedSimpArgs false

set_option linter.unusedVariables false

namespace Go.Proofs.YtdjkbpenppdnlaaDoor

open Go.RowKit

theorem bA {a w : World} (h : Below a.heap.size a w) (o : Obj) : Below a.heap.size a (w.alloc o) := h.alloc h.size o
theorem bT {a b c : World} (h : Below a.heap.size a b) (k : Below b.heap.size b c) : Below a.heap.size a c := h.trans (k.mono h.size)
theorem bD {a w : World} (h : Below a.heap.size a w) (n : Nat) : Below a.heap.size a (w.drewN n) := ⟨h.os, h.tape, h.output, h.size, h.block⟩
theorem bd {a w : World} (h : Below a.heap.size a w) : Below a.heap.size a w.drew := ⟨h.os, h.tape, h.output, h.size, h.block⟩
theorem bS {a w : World} (h : Below a.heap.size a w) {p : Addr} (hp : a.heap.size ≤ p.block) (u : Value) : Below a.heap.size a (w.setCell p u) := h.setCell hp u
theorem bdL {w w' : World} (h : Below w.drew.heap.size w.drew w') : Below w.heap.size w w' := ⟨h.os, h.tape, h.output, h.size, h.block⟩

/-- a world that came out of another one by making memory alone -/
structure Ext (w : World) where
  v : World
  b : Below w.heap.size w v
def Ext.up {w w2 : World} (h : Below w.heap.size w w2) (x : Ext w2) : Ext w := ⟨x.v, bT h x.b⟩
instance ext_some (w : World) : Nonempty (Ext w) := ⟨⟨w, Below.refl _ _⟩⟩
theorem quiet_lit {P : Program} {id : Nat} {Q : Exit → Act → World → Prop} {a : Act} {w : World} {l : List Oper} (hm : P.follows .mixedOrders = true) (hB : Region.lexB .any l.toArray = true)
    (h : wpQuiet P l.toArray (fun w' => ∃ x : Ext w, w' = x.v) (fun a' => ∀ w', (∃ x : Ext w, w' = x.v) → Q .normal a' w') l a) : (Code.region id l.toArray true).wp P Q a w :=
  wp_region_quiet (C := fun w' => ∃ x : Ext w, w' = x.v) hm hB ⟨⟨w.drew, bd (Below.refl _ _)⟩, rfl⟩ (by simpa using h)
theorem quiet_x {P : Program} {f : FuncId} {args : Array Value} {w : World} {x : Ext w} {v : Value} (h : Calls P f args x.v fun e w' => e = .returned v ∧ Below x.v.heap.size x.v w') :
    Calls P f args x.v fun e w' => e = .returned v ∧ ∃ y : Ext w, w' = y.v := h.mono fun _ w' ⟨he, hb⟩ => ⟨he, ⟨w', bT x.b hb⟩, rfl⟩
theorem quiet_s {P : Program} {f : FuncId} {args : Array Value} {w : World} {x : Ext w} {v : Value} (h : Calls P f args x.v fun e w' => e = .returned v ∧ x.v = w') :
    Calls P f args x.v fun e w' => e = .returned v ∧ ∃ y : Ext w, w' = y.v := h.mono fun _ w' ⟨he, hb⟩ => ⟨he, x, hb.symm⟩
theorem quiet_l {P : Program} {f : FuncId} {args : Array Value} {w : World} {n : Nat} {v : Value}
    (h : Calls P f args (w.drewN n) fun e w' => e = .returned v ∧ w.drewN n = w') : Calls P f args (w.drewN n) fun e w'' => e = .returned v ∧ ∃ m, w'' = w.drewN m :=
  h.mono fun _ _ ⟨he, hm⟩ => ⟨he, n, hm.symm⟩
theorem ret_b {a b : Bool} (h : a = b) : Ending.returned (.bool a) = .returned (.bool b) := by rw [h]
theorem ret_i {a b : Int} (h : a = b) : Ending.returned (.int .i64 a) = .returned (.int .i64 b) := by rw [h]

/-- where a town's parts lie -/
structure Adr where
  wp : Option Addr
  wc : Nat
  fp : Option Addr
  fc : Nat
  rp : Nat → Option Addr
  rc : Nat → Nat
  ip : Nat → Nat → Option Addr
  ic : Nat → Nat → Nat
def Adr.val (A : Adr) (T : Tn) : Value := .agg #[.int .i64 T.wn, .slice A.wp T.nw A.wc, .slice A.fp T.nf A.fc]
/-- l cells at an address below block K -/
def At (w : World) (K : Nat) (q : Option Addr) (n sz : Nat) (f : Nat → Value) : Prop := 0 < n → ∃ b o, q = some ⟨b, o, none⟩ ∧ b < K ∧ ∀ k, k < n * sz → w.cell? ⟨b, o + k, none⟩ = some (f k)
theorem At.below {w w' : World} {K n sz : Nat} {q : Option Addr} {f : Nat → Value} (h : At w K q n sz f) (hb : Below K w w') : At w' K q n sz f := fun h0 => by
  obtain ⟨b, o, e, l, c⟩ := h h0
  exact ⟨b, o, e, l, fun k hk => (hb.cell l).trans (c k hk)⟩
theorem At.mono {w : World} {K K' n sz : Nat} {q : Option Addr} {f : Nat → Value} (h : At w K q n sz f) (hk : K ≤ K') : At w K' q n sz f := fun h0 => by
  obtain ⟨b, o, e, l, c⟩ := h h0
  exact ⟨b, o, e, Nat.lt_of_lt_of_le l hk, c⟩
theorem At.bel {w w' : World} {n sz : Nat} {q : Option Addr} {f : Nat → Value} (h : At w w.heap.size q n sz f) (hb : Below w.heap.size w w') : At w' w'.heap.size q n sz f := (h.below hb).mono hb.size
theorem At.cell {w : World} {K n sz b o : Nat} {f : Nat → Value} (h : At w K (some ⟨b, o, none⟩) n sz f) {k : Nat} (hk : k < n * sz) : w.cell? ⟨b, o + k, none⟩ = some (f k) := by
  have h0 : 0 < n := by rcases Nat.eq_zero_or_pos n with e | e; · rw [e] at hk; omega
                        · exact e
  obtain ⟨b', o', e, _, c⟩ := h h0
  cases e; exact c k hk
/-- the numbers of a fact, one behind the other -/
def Tn.fact (T : Tn) (j : Nat) : Value := .int .i64 (if j % 5 = 0 then T.ff (j / 5) else if j % 5 = 1 then T.fm (j / 5) else if j % 5 = 2 then T.ft (j / 5) else if j % 5 = 3 then T.fl (j / 5) else T.fh (j / 5))
/-- the town lies in w below block K -/
structure TnIn (w : World) (K : Nat) (T : Tn) (A : Adr) : Prop where
  ws : At w K A.wp T.nw 1 (fun k => .slice (A.rp k) (T.rl k) (A.rc k))
  rs : ∀ k, k < T.nw → At w K (A.rp k) (T.rl k) 1 (fun i => .slice (A.ip k i) (T.cl k i) (A.ic k i))
  is : ∀ k, k < T.nw → ∀ i, i < T.rl k → At w K (A.ip k i) (T.cl k i) 1 (fun j => .int .i64 (T.fa k i j))
  fs : At w K A.fp T.nf 5 T.fact
theorem TnIn.below {w w' : World} {K : Nat} {T : Tn} {A : Adr} (h : TnIn w K T A) (hb : Below K w w') : TnIn w' K T A :=
  ⟨h.ws.below hb, fun k hk => (h.rs k hk).below hb, fun k hk i hi => (h.is k hk i hi).below hb, h.fs.below hb⟩
theorem TnIn.mono {w : World} {K K' : Nat} {T : Tn} {A : Adr} (h : TnIn w K T A) (hk : K ≤ K') : TnIn w K' T A :=
  ⟨h.ws.mono hk, fun k h1 => (h.rs k h1).mono hk, fun k h1 i h2 => (h.is k h1 i h2).mono hk, h.fs.mono hk⟩
theorem TnIn.bel {w w' : World} {T : Tn} {A : Adr} (h : TnIn w w.heap.size T A) (hb : Below w.heap.size w w') : TnIn w' w'.heap.size T A := (h.below hb).mono hb.size
theorem rebase (w : World) : ∃ z : Ext w, w = z.v := ⟨⟨w, Below.refl _ _⟩, rfl⟩
/-- the box of a town -/
theorem box_tn (w : World) (n : Int) (p q : Option Addr) (l c m d : Nat) :
    ∃ (w1 : World) (x : Ext w1), w.alloc (Obj.cells #[Value.int .i64 n, Value.slice p l c, Value.slice q m d] 25) = x.v ∧ Below w.heap.size w w1 ∧ w1.heap.size = w.heap.size + 1 ∧
      (∀ x : Ext w1, x.v.cell? ⟨w.heap.size, 0, none⟩ = some (.int .i64 n)) ∧ (∀ x : Ext w1, x.v.cell? ⟨w.heap.size, 1, none⟩ = some (.slice p l c)) ∧
      (∀ x : Ext w1, x.v.cell? ⟨w.heap.size, 2, none⟩ = some (.slice q m d)) ∧ (∀ (x : Ext w1) i, x.v.frozen? ⟨w.heap.size, i, none⟩ = false) := by
  have h0 : (w.alloc (Obj.cells #[Value.int .i64 n, Value.slice p l c, Value.slice q m d] 25)).cell? ⟨w.heap.size, 0, none⟩ = some (.int .i64 n) := by go_simp
  have h1 : (w.alloc (Obj.cells #[Value.int .i64 n, Value.slice p l c, Value.slice q m d] 25)).cell? ⟨w.heap.size, 1, none⟩ = some (.slice p l c) := by go_simp
  have h2 : (w.alloc (Obj.cells #[Value.int .i64 n, Value.slice p l c, Value.slice q m d] 25)).cell? ⟨w.heap.size, 2, none⟩ = some (.slice q m d) := by go_simp
  have hf : ∀ i, (w.alloc (Obj.cells #[Value.int .i64 n, Value.slice p l c, Value.slice q m d] 25)).frozen? ⟨w.heap.size, i, none⟩ = false := fun i => by go_simp
  exact ⟨_, ⟨_, Below.refl _ _⟩, rfl, bA (Below.refl _ _) _, by simp, fun x => (x.b.cell (p := ⟨w.heap.size, 0, none⟩) (by simp)).trans h0, fun x => (x.b.cell (p := ⟨w.heap.size, 1, none⟩) (by simp)).trans h1, fun x => (x.b.cell (p := ⟨w.heap.size, 2, none⟩) (by simp)).trans h2, fun x i => (x.b.frozen (p := ⟨w.heap.size, i, none⟩) (by simp)).trans (hf i)⟩
theorem quiet_e {P : Program} {id : Nat} {Q : Exit → Act → World → Prop} {a : Act} {w : World} {x : Ext w} {l : List Oper} (hm : P.follows .mixedOrders = true) (hB : Region.lexB .any l.toArray = true)
    (h : wpQuiet P l.toArray (fun w' => ∃ y : Ext w, w' = y.v) (fun a' => ∀ w', (∃ y : Ext w, w' = y.v) → Q .normal a' w') l a) : (Code.region id l.toArray true).wp P Q a x.v :=
  wp_region_quiet (C := fun w' => ∃ y : Ext w, w' = y.v) hm hB ⟨⟨x.v.drew, bd x.b⟩, rfl⟩ (by simpa using h)
theorem within_eq {n lo hi : Int} (h : lo ≤ n) : within n lo hi = decide (n ≤ hi) := by simp [within, h]
theorem within1_any (n lo hi : Int) (w : World) :
    Calls Tryd.prog 54 #[.int .i64 n, .int .i64 lo, .int .i64 hi] w fun e w' => e = .returned (.bool (within n lo hi)) ∧ w = w' := by
  go_enter Tryd.func54, Tryd.ntmps54
  go_wp2
  · go_ret
    have h : lo ≤ n := by assumption
    exact ⟨ret_b (within_eq h).symm, rfl⟩
  · go_ret
    have h : n < lo := by assumption
    exact ⟨ret_b (within_lo h).symm, rfl⟩
theorem within_any (n lo hi : Int) (w : World) :
    Calls Tryd.prog 69 #[.int .i64 n, .int .i64 lo, .int .i64 hi] w fun e w' => e = .returned (.bool (within n lo hi)) ∧ w = w' := by
  go_enter Tryd.func69, Tryd.ntmps69
  go_wp2_with (go_at_call 54; refine (within1_any _ _ _ _).mono ?_; rintro e w' ⟨rfl, rfl⟩)
  go_ret
  exact ⟨rfl, rfl⟩
theorem isFrom_any (n lo hi : Int) (w : World) :
    Calls Tryd.prog 99 #[.int .i64 n, .int .i64 lo, .int .i64 hi] w fun e w' => e = .returned (.bool (within n lo hi)) ∧ w = w' := by
  go_enter Tryd.func99, Tryd.ntmps99
  go_wp2
  · go_ret
    have h : lo ≤ n := by assumption
    exact ⟨ret_b (within_eq h).symm, rfl⟩
  · go_ret
    have h : n < lo := by assumption
    exact ⟨ret_b (within_lo h).symm, rfl⟩
theorem isWellR_any (T : Tn) (A : Adr) (k : Int) (w : World) (hn : 0 ≤ T.wn ∧ T.wn ≤ 100) :
    Calls Tryd.prog 47 #[A.val T, .int .i64 k] w fun e w' => e = .returned (.bool (T.well k)) ∧ Below w.heap.size w w' := by
  obtain ⟨w1, x, hw1, hb1, hz1, F0, F1, F2, _⟩ := box_tn w T.wn A.wp A.fp T.nw A.wc T.nf A.fc
  have HB := Lib.hid hb1
  have hw : IntKind.i64.wrap (T.wn - 1) = T.wn - 1 := IntWalk.i64_in _ (by omega)
  clear hb1 hz1
  unfold Adr.val
  go_enter Tryd.func47, Tryd.ntmps47
  go_wp2_with (go_at_call 69; refine (within_any _ _ _ _).mono ?_; rintro e w' ⟨rfl, rfl⟩)
  go_ret
  exact ⟨rfl, bT HB.out x.b⟩
end Go.Proofs.YtdjkbpenppdnlaaDoor
