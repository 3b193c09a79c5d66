/- Shafts: small functions, shafts in memory, and whether two lists are equal. -/
import Derived.Test.YtaaocomgmacjnabDoorChecked

import Derived.WalkKit

import Derived.WalkSpells

import Derived.WalkLawsBesides

import Derived.BigQuiet

import Derived.Deep.QuietTactic

import Derived.Lib.Hide

import Derived.RowKit3

import Derived.WalkSmall

set_option linter.unusedSimpArgs false

set_option linter.unusedVariables false

namespace Go.Proofs.YtaaocomgmacjnabDoor

open Go.RowKit

theorem bA {a w : World} (h : Below a.heap.size a w) (o : Obj) : Below a.heap.size a (w.alloc o) := h.alloc h.size o
theorem bT {a b c : World} (h : Below a.heap.size a b) (k : Below b.heap.size b c) : Below a.heap.size a c := h.trans (k.mono h.size)
theorem bD {a w : World} (h : Below a.heap.size a w) (n : Nat) : Below a.heap.size a (w.drewN n) := ⟨h.os, h.tape, h.output, h.size, h.block⟩
theorem bd {a w : World} (h : Below a.heap.size a w) : Below a.heap.size a w.drew := ⟨h.os, h.tape, h.output, h.size, h.block⟩
theorem bS {a w : World} (h : Below a.heap.size a w) {p : Addr} (hp : a.heap.size ≤ p.block) (u : Value) : Below a.heap.size a (w.setCell p u) := h.setCell hp u

/-- a world that came out of another one by making memory alone -/
structure Ext (w : World) where
  v : World
  b : Below w.heap.size w v
def Ext.up {w w2 : World} (h : Below w.heap.size w w2) (x : Ext w2) : Ext w := ⟨x.v, bT h x.b⟩
instance ext_some (w : World) : Nonempty (Ext w) := ⟨⟨w, Below.refl _ _⟩⟩
theorem quiet_lit {P : Program} {id : Nat} {Q : Exit → Act → World → Prop} {a : Act} {w : World} {l : List Oper} (hm : P.follows .mixedOrders = true) (hB : Region.lexB .any l.toArray = true)
    (h : wpQuiet P l.toArray (fun w' => ∃ x : Ext w, w' = x.v) (fun a' => ∀ w', (∃ x : Ext w, w' = x.v) → Q .normal a' w') l a) : (Code.region id l.toArray true).wp P Q a w :=
  wp_region_quiet (C := fun w' => ∃ x : Ext w, w' = x.v) hm hB ⟨⟨w.drew, bd (Below.refl _ _)⟩, rfl⟩ (by simpa using h)
theorem quiet_x {P : Program} {f : FuncId} {args : Array Value} {w : World} {x : Ext w} {v : Value} (h : Calls P f args x.v fun e w' => e = .returned v ∧ Below x.v.heap.size x.v w') :
    Calls P f args x.v fun e w' => e = .returned v ∧ ∃ y : Ext w, w' = y.v := h.mono fun _ w' ⟨he, hb⟩ => ⟨he, ⟨w', bT x.b hb⟩, rfl⟩
theorem quiet_s {P : Program} {f : FuncId} {args : Array Value} {w : World} {x : Ext w} {v : Value} (h : Calls P f args x.v fun e w' => e = .returned v ∧ x.v = w') :
    Calls P f args x.v fun e w' => e = .returned v ∧ ∃ y : Ext w, w' = y.v := h.mono fun _ w' ⟨he, hb⟩ => ⟨he, x, hb.symm⟩

def within (n lo hi : Int) : Bool := decide (lo ≤ n ∧ n ≤ hi)
theorem within_tt {n lo hi : Int} (h : lo ≤ n) (h' : n ≤ hi) : within n lo hi = true := by simp [within, h, h']
theorem within_lo {n lo hi : Int} (h : n < lo) : within n lo hi = false := by simp [within]; omega
theorem within_hi {n lo hi : Int} (h : hi < n) : within n lo hi = false := by simp [within]; omega
theorem within_eq {n lo hi : Int} (h : lo ≤ n) : within n lo hi = decide (n ≤ hi) := by simp [within, h]
theorem within_iff {n lo hi : Int} : within n lo hi = true ↔ lo ≤ n ∧ n ≤ hi := by simp [within]
theorem quiet_l {P : Program} {f : FuncId} {args : Array Value} {w : World} {n : Nat} {v : Value}
    (h : Calls P f args (w.drewN n) fun e w' => e = .returned v ∧ w.drewN n = w') : Calls P f args (w.drewN n) fun e w'' => e = .returned v ∧ ∃ m, w'' = w.drewN m :=
  h.mono fun _ _ ⟨he, hm⟩ => ⟨he, n, hm.symm⟩
theorem ret_b {a b : Bool} (h : a = b) : Ending.returned (.bool a) = .returned (.bool b) := by rw [h]
theorem ret_i {a b : Int} (h : a = b) : Ending.returned (.int .i64 a) = .returned (.int .i64 b) := by rw [h]

theorem within1_any (n lo hi : Int) (w : World) :
    Calls Tryd.prog 23 #[.int .i64 n, .int .i64 lo, .int .i64 hi] w fun e w' => e = .returned (.bool (within n lo hi)) ∧ w = w' := by
  go_enter Tryd.func23, Tryd.ntmps23
  go_wp2
  · go_ret
    have h : lo ≤ n := by assumption
    exact ⟨ret_b (within_eq h).symm, rfl⟩
  · go_ret
    have h : n < lo := by assumption
    exact ⟨ret_b (within_lo h).symm, rfl⟩
theorem within_any (n lo hi : Int) (w : World) :
    Calls Tryd.prog 35 #[.int .i64 n, .int .i64 lo, .int .i64 hi] w fun e w' => e = .returned (.bool (within n lo hi)) ∧ w = w' := by
  go_enter Tryd.func35, Tryd.ntmps35
  go_wp2_with (go_at_call 23; refine (within1_any _ _ _ _).mono ?_; rintro e w' ⟨rfl, rfl⟩)
  go_ret
  exact ⟨rfl, rfl⟩
theorem upTo_any (n hi : Int) (w : World) :
    Calls Tryd.prog 59 #[.int .i64 n, .int .i64 hi] w fun e w' => e = .returned (.bool (within n 0 hi)) ∧ w = w' := by
  go_enter Tryd.func59, Tryd.ntmps59
  go_wp2
  · go_ret
    have h : 0 ≤ n := by assumption
    exact ⟨ret_b (within_eq h).symm, rfl⟩
  · go_ret
    have h : n < 0 := by assumption
    exact ⟨ret_b (within_lo h).symm, rfl⟩

/-- the slice value v reads as the ints xs, in blocks below B -/
structure IntsAt (w : World) (B : Nat) (b o : Nat) (xs : List Int) : Prop where
  lt : b < B
  cell : ∀ k, (h : k < xs.length) → w.cell? ⟨b, o + k, none⟩ = some (.int .i64 xs[k])
theorem IntsAt.below {w w' : World} {B b o : Nat} {l : List Int} (h : IntsAt w B b o l) (hb : Below B w w') : IntsAt w' B b o l :=
  ⟨h.lt, fun k hk => (hb.cell h.lt).trans (h.cell k hk)⟩
theorem IntsAt.mono {w : World} {B B' b o : Nat} {l : List Int} (h : IntsAt w B b o l) (hb : B ≤ B') : IntsAt w B' b o l := ⟨Nat.lt_of_lt_of_le h.lt hb, h.cell⟩

/-- hours, pence, stand, seat -/
structure Rock where
  h : Int
  p : Int
  s : Int
  e : Int
/-- rocks, feet, deep, haul, rest -/
structure Shaft where
  R : List Rock
  F : List Int
  D : Int
  H : Int
  T : Int
def rockOk (x : Rock) : Bool := within x.e (-1) 99 && (within x.h 0 9 && (within x.p 0 99 && within x.s 0 12))
def footOk (n : Nat) (f : Int) : Bool := within f 0 ((n : Int) - 1)
def Shaft.ok (S : Shaft) : Bool := decide (S.R.length ≤ 4) && (decide (S.F.length ≤ 12) && (S.R.all rockOk && (S.F.all (footOk S.R.length) && (within S.D 0 9 && (within S.H 0 9 && within S.T 0 9)))))

structure RockAt (w : World) (b o : Nat) (l : List Rock) : Prop where
  c0 : ∀ k, (h : k < l.length) → w.cell? ⟨b, o + k * 4, none⟩ = some (.int .i64 l[k].h)
  c1 : ∀ k, (h : k < l.length) → w.cell? ⟨b, o + k * 4 + 1, none⟩ = some (.int .i64 l[k].p)
  c2 : ∀ k, (h : k < l.length) → w.cell? ⟨b, o + k * 4 + 2, none⟩ = some (.int .i64 l[k].s)
  c3 : ∀ k, (h : k < l.length) → w.cell? ⟨b, o + k * 4 + 3, none⟩ = some (.int .i64 l[k].e)
theorem RockAt.below {w w' : World} {B b o : Nat} {l : List Rock} (h : RockAt w b o l) (hb : Below B w w') (hl : b < B) : RockAt w' b o l :=
  ⟨fun k hk => (hb.cell hl).trans (h.c0 k hk), fun k hk => (hb.cell hl).trans (h.c1 k hk), fun k hk => (hb.cell hl).trans (h.c2 k hk), fun k hk => (hb.cell hl).trans (h.c3 k hk)⟩
/-- the shaft lies in w below block K: its two slices' addresses are q (rocks) and p (feet) -/
structure ShaftIn (w : World) (K : Nat) (S : Shaft) (p q : Option Addr) : Prop where
  f : 0 < S.F.length → ∃ b o, p = some ⟨b, o, none⟩ ∧ IntsAt w K b o S.F
  s : 0 < S.R.length → ∃ b o, q = some ⟨b, o, none⟩ ∧ b < K ∧ RockAt w b o S.R
theorem ShaftIn.below {w w' : World} {K : Nat} {S : Shaft} {p q : Option Addr} (h : ShaftIn w K S p q) (hb : Below K w w') : ShaftIn w' K S p q :=
  ⟨fun hs => let ⟨b, o, e, a⟩ := h.f hs; ⟨b, o, e, a.below hb⟩, fun hs => let ⟨b, o, e, l, a⟩ := h.s hs; ⟨b, o, e, l, a.below hb l⟩⟩
theorem ShaftIn.mono {w : World} {K K' : Nat} {S : Shaft} {p q : Option Addr} (h : ShaftIn w K S p q) (hb : K ≤ K') : ShaftIn w K' S p q :=
  ⟨fun hs => let ⟨b, o, e, a⟩ := h.f hs; ⟨b, o, e, a.mono hb⟩, fun hs => let ⟨b, o, e, l, a⟩ := h.s hs; ⟨b, o, e, by omega, a⟩⟩
theorem ShaftIn.bel {w w' : World} {S : Shaft} {p q : Option Addr} (h : ShaftIn w w.heap.size S p q) (hb : Below w.heap.size w w') : ShaftIn w' w'.heap.size S p q := (h.below hb).mono hb.size

/-- a box that holds a shaft -/
structure BoxS (w : World) (b : Nat) (S : Shaft) (p q : Option Addr) (c d : Nat) : Prop where
  c0 : w.cell? ⟨b, 0, none⟩ = some (.slice q S.R.length d)
  c1 : w.cell? ⟨b, 1, none⟩ = some (.slice p S.F.length c)
  c2 : w.cell? ⟨b, 2, none⟩ = some (.int .i64 S.D)
  c3 : w.cell? ⟨b, 3, none⟩ = some (.int .i64 S.H)
  c4 : w.cell? ⟨b, 4, none⟩ = some (.int .i64 S.T)
  lt : b < w.heap.size
theorem BoxS.below {w w' : World} {b : Nat} {S : Shaft} {p q : Option Addr} {c d : Nat} (h : BoxS w b S p q c d) (hb : Below w.heap.size w w') : BoxS w' b S p q c d :=
  ⟨(hb.cell h.lt).trans h.c0, (hb.cell h.lt).trans h.c1, (hb.cell h.lt).trans h.c2, (hb.cell h.lt).trans h.c3, (hb.cell h.lt).trans h.c4, Nat.lt_of_lt_of_le h.lt hb.size⟩
theorem box_shaft (w : World) (S : Shaft) (p q : Option Addr) (c d : Nat) :
    ∃ w1, w.alloc (Obj.cells #[Value.slice q S.R.length d, Value.slice p S.F.length c, Value.int IntKind.i64 S.D, Value.int IntKind.i64 S.H, Value.int IntKind.i64 S.T] 25) = w1 ∧ Below w.heap.size w w1 ∧ w1.heap.size = w.heap.size + 1 ∧ BoxS w1 w.heap.size S p q c d :=
  ⟨_, rfl, bA (Below.refl _ _) _, by simp, by go_simp, by go_simp, by go_simp, by go_simp, by go_simp, by simp⟩
theorem box_rock (w : World) (a b c d : Int) :
    ∃ w1, w.alloc (Obj.cells #[Value.int IntKind.i64 a, Value.int IntKind.i64 b, Value.int IntKind.i64 c, Value.int IntKind.i64 d] 55) = w1 ∧ Below w.heap.size w w1 ∧ w1.heap.size = w.heap.size + 1 ∧
      w1.cell? ⟨w.heap.size, 0, none⟩ = some (.int .i64 a) ∧ w1.cell? ⟨w.heap.size, 1, none⟩ = some (.int .i64 b) ∧ w1.cell? ⟨w.heap.size, 2, none⟩ = some (.int .i64 c) ∧ w1.cell? ⟨w.heap.size, 3, none⟩ = some (.int .i64 d) :=
  ⟨_, rfl, bA (Below.refl _ _) _, by simp, by go_simp, by go_simp, by go_simp, by go_simp⟩

/-- as far as number k all are so -/
def AllTo {α : Type} (f : α → Bool) (l : List α) (k : Nat) : Prop := (l.take k).all f = true
theorem allTo_succ {α : Type} {f : α → Bool} {l : List α} {k : Nat} (h : AllTo f l k) (hk : k < l.length) (e : f l[k] = true) : AllTo f l (k + 1) := by
  unfold AllTo at *
  rw [List.take_add_one, List.getElem?_eq_getElem hk, List.all_append, h]; simpa using e
theorem allTo_all {α : Type} {f : α → Bool} {l : List α} {k : Nat} (h : AllTo f l k) (hk : l.length ≤ k) : l.all f = true := by
  unfold AllTo at h; rwa [List.take_of_length_le hk] at h
theorem allTo_bad {α : Type} {f : α → Bool} {l : List α} {k : Nat} (hk : k < l.length) (e : f l[k] = false) : l.all f = false := by
  rw [List.all_eq_false]; exact ⟨l[k], List.getElem_mem hk, by simp [e]⟩
theorem all_at {α : Type} {f : α → Bool} {l : List α} (h : l.all f = true) {k : Nat} (hk : k < l.length) : f l[k] = true := List.all_eq_true.1 h _ (List.getElem_mem hk)

def Pre (xs ys : List Int) (k : Nat) : Prop := xs.take k = ys.take k
theorem pre_succ {xs ys : List Int} {k : Nat} (h : Pre xs ys k) (hx : k < xs.length) (hy : k < ys.length) (e : xs[k] = ys[k]) : Pre xs ys (k+1) := by
  unfold Pre at *
  rw [List.take_add_one, List.take_add_one, h, List.getElem?_eq_getElem hx, List.getElem?_eq_getElem hy, e]
theorem pre_all {xs ys : List Int} {k : Nat} (h : Pre xs ys k) (hx : xs.length ≤ k) (hy : ys.length ≤ k) : decide (xs = ys) = true := by
  unfold Pre at h
  rw [List.take_of_length_le hx, List.take_of_length_le hy] at h
  simp [h]
theorem ne_all {xs ys : List Int} {k : Nat} (hx : k < xs.length) (hy : k < ys.length) (e : (xs[k] != ys[k]) = true) : false = decide (xs = ys) := by
  symm; apply decide_eq_false; rintro rfl; simp at e
theorem sameInts_any (xs ys : List Int) (p q : Option Addr) (c d : Nat) (w : World) (hx : xs.length ≤ 1000000) (hy : ys.length ≤ 1000000)
    (h1 : 0 < xs.length → ∃ b o, p = some ⟨b, o, none⟩ ∧ IntsAt w w.heap.size b o xs) (h2 : 0 < ys.length → ∃ b o, q = some ⟨b, o, none⟩ ∧ IntsAt w w.heap.size b o ys) :
    Calls Tryd.prog 20 #[.slice p xs.length c, .slice q ys.length d] w fun e w' => e = .returned (.bool (decide (xs = ys))) ∧ ∃ n, w' = w.drewN n := by
  by_cases hl : xs.length = ys.length
  · have hd : ((xs.length : Int) != (ys.length : Int)) = false := by rw [bne_eq_false_iff_eq]; omega
    have H1 := Lib.hid h1; have H2 := Lib.hid h2; have HL := Lib.hid hl; clear h1 h2 hl
    go_enter Tryd.func20, Tryd.ntmps20
    go_wp2
    go_loopw [5] (fun i wr => ∃ k n : Nat, i = .int .i64 k ∧ k ≤ xs.length ∧ Pre xs ys k ∧ wr = w.drewN n) (fun i _ => xs.length - (intOf i).toNat)
    case atStart => exact ⟨0, 0, rfl, Nat.zero_le _, rfl, rfl⟩
    case round =>
      obtain ⟨k, n, rfl, hk, hp, rfl⟩ := hrel
      have HP := Lib.hid hp; clear hp
      by_cases hlt : k < xs.length
      · obtain ⟨b1, o1, rfl, ⟨_, hc1⟩⟩ := H1.out (by omega)
        have hlt2 : k < ys.length := by have := HL.out; omega
        obtain ⟨b2, o2, rfl, ⟨_, hc2⟩⟩ := H2.out (by omega)
        have e1 := hc1 k hlt
        have e2 := hc2 k hlt2
        clear hc1 hc2 H1 H2
        go_wp2
        go_quiet (fail)
        go_wp2
        · go_ret
          exact ⟨ret_b (ne_all hlt hlt2 (by assumption)), _, World.drewN_drewN _ _ _⟩
        · have hb : (xs[k] != ys[k]) = false := by assumption
          go_roundw
          case rel => exact ⟨k + 1, _, by go_num, hlt, pre_succ HP.out hlt hlt2 (by simpa using hb), rfl⟩
          case measure => simp [intOf]; omega
      · go_wp2
        go_ret
        have := HL.out
        exact ⟨ret_b (pre_all HP.out (by omega) (by omega)).symm, _, rfl⟩
  · have hd : ((xs.length : Int) != (ys.length : Int)) = true := by rw [bne_iff_ne]; omega
    go_enter Tryd.func20, Tryd.ntmps20
    go_wp2
    go_ret
    exact ⟨ret_b (by symm; apply decide_eq_false; rintro rfl; exact hl rfl), 0, rfl⟩
end Go.Proofs.YtaaocomgmacjnabDoor
