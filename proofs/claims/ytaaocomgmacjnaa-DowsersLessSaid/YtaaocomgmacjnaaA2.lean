/- Books of dowsers: which numbers are ones of the book, which saying is ahead of another one, what is found, how wide a saying is. -/
import Derived.Test.YtaaocomgmacjnaaA1

set_option linter.unusedSimpArgs false

set_option linter.unusedVariables false

namespace Go.Proofs.Ytaaocomgmacjnaa

open Go.RowKit

theorem isDowserR_any (D N P n : Int) (f s : Value) (w : World) (h0 : -100 ≤ N) (h1 : N ≤ 100) :
    Calls Try.prog 24 #[.agg #[.int .i64 D, f, .int .i64 N, s, .int .i64 P], .int .i64 n] w fun e w' => e = .returned (.bool (within n 0 (N - 1))) ∧ Below w.heap.size w w' := by
  go_enter Try.func24, Try.ntmps24
  go_wp2_with (go_at_call 40; refine (within_any _ _ _ _).mono ?_; rintro e w' ⟨rfl, rfl⟩)
  go_ret
  exact ⟨rfl, bA (Below.refl _ _) _⟩
theorem isDowser_any (D N P n : Int) (f s : Value) (w : World) (h0 : -100 ≤ N) (h1 : N ≤ 100) :
    Calls Try.prog 49 #[.agg #[.int .i64 D, f, .int .i64 N, s, .int .i64 P], .int .i64 n] w fun e w' => e = .returned (.bool (within n 0 (N - 1))) ∧ Below w.heap.size w w' := by
  go_enter Try.func49, Try.ntmps49
  go_wp2_with (go_at_call 68; refine (isFrom_any _ _ _ _).mono ?_; rintro e w' ⟨rfl, rfl⟩)
  go_ret
  exact ⟨rfl, bA (Below.refl _ _) _⟩
theorem isPlaceR_any (D N P n : Int) (p : Option Addr) (m c : Nat) (s : Value) (w : World) (hm : m ≤ 1000000) :
    Calls Try.prog 65 #[.agg #[.int .i64 D, .slice p m c, .int .i64 N, s, .int .i64 P], .int .i64 n] w fun e w' => e = .returned (.bool (within n 0 ((m : Int) - 1))) ∧ Below w.heap.size w w' := by
  go_enter Try.func65, Try.ntmps65
  go_wp2_with (go_at_call 40; refine (within_any _ _ _ _).mono ?_; rintro e w' ⟨rfl, rfl⟩)
  go_ret
  exact ⟨rfl, bA (Below.refl _ _) _⟩
theorem isSayingR_any (D N P n : Int) (f : Value) (q : Option Addr) (m c : Nat) (w : World) (hm : m ≤ 1000000) :
    Calls Try.prog 10 #[.agg #[.int .i64 D, f, .int .i64 N, .slice q m c, .int .i64 P], .int .i64 n] w fun e w' => e = .returned (.bool (within n 0 ((m : Int) - 1))) ∧ Below w.heap.size w w' := by
  go_enter Try.func10, Try.ntmps10
  go_wp2_with (go_at_call 40; refine (within_any _ _ _ _).mono ?_; rintro e w' ⟨rfl, rfl⟩)
  go_ret
  exact ⟨rfl, bA (Below.refl _ _) _⟩
theorem isSaying_any (D N P n : Int) (f : Value) (q : Option Addr) (m c : Nat) (w : World) (hm : m ≤ 1000000) :
    Calls Try.prog 45 #[.agg #[.int .i64 D, f, .int .i64 N, .slice q m c, .int .i64 P], .int .i64 n] w fun e w' => e = .returned (.bool (within n 0 ((m : Int) - 1))) ∧ Below w.heap.size w w' := by
  go_enter Try.func45, Try.ntmps45
  go_wp2_with (go_at_call 68; refine (isFrom_any _ _ _ _).mono ?_; rintro e w' ⟨rfl, rfl⟩)
  go_ret
  exact ⟨rfl, bA (Below.refl _ _) _⟩

theorem beforeR_any (x y : Say) (w : World) :
    Calls Try.prog 64 #[.agg #[.int .i64 x.d, .int .i64 x.p, .int .i64 x.l, .int .i64 x.h], .agg #[.int .i64 y.d, .int .i64 y.p, .int .i64 y.l, .int .i64 y.h]] w fun e w' => e = .returned (.bool (ahead x y)) ∧ Below w.heap.size w w' := by
  have fin : ∀ b, b = ahead x y → Ending.returned (.bool b) = .returned (.bool (ahead x y)) := fun b h => by rw [h]
  have F := Lib.hid fin; clear fin
  rcases Int.lt_trichotomy x.d y.d with h | h | h
  · have d1 : decide (x.d < y.d) = true := by simpa using h
    have hr : true = ahead x y := by unfold ahead; rw [if_neg (by omega), d1]
    have HR := Lib.hid hr; clear hr
    go_enter Try.func64, Try.ntmps64
    go_wp2
    go_ret
    exact ⟨F.out _ HR.out, bA (bA (Below.refl _ _) _) _⟩
  · have d1 : decide (x.d < y.d) = false := by simp; omega
    have d2 : (x.d == y.d) = true := by simp [h]
    have hr : decide (x.p < y.p) = ahead x y := by unfold ahead; rw [if_pos h]
    have HR := Lib.hid hr; clear hr h
    go_enter Try.func64, Try.ntmps64
    go_wp2
    go_ret
    exact ⟨F.out _ HR.out, bA (bA (Below.refl _ _) _) _⟩
  · have d1 : decide (x.d < y.d) = false := by simp; omega
    have d2 : (x.d == y.d) = false := by simp; omega
    have hr : false = ahead x y := by unfold ahead; rw [if_neg (by omega), d1]
    have HR := Lib.hid hr; clear hr
    go_enter Try.func64, Try.ntmps64
    go_wp2
    go_ret
    exact ⟨F.out _ HR.out, bA (bA (Below.refl _ _) _) _⟩
theorem isAhead_any (x y : Say) (w : World) :
    Calls Try.prog 70 #[.agg #[.int .i64 x.d, .int .i64 x.p, .int .i64 x.l, .int .i64 x.h], .agg #[.int .i64 y.d, .int .i64 y.p, .int .i64 y.l, .int .i64 y.h]] w fun e w' => e = .returned (.bool (ahead x y)) ∧ Below w.heap.size w w' := by
  by_cases h : x.d = y.d
  · have d1 : (x.d != y.d) = false := by simp [h]
    have hr : decide (x.p < y.p) = ahead x y := by unfold ahead; rw [if_pos h]
    have HR := Lib.hid hr; clear hr h
    go_enter Try.func70, Try.ntmps70
    go_wp2
    go_ret
    exact ⟨ret_b HR.out, bA (bA (Below.refl _ _) _) _⟩
  · have d1 : (x.d != y.d) = true := by simp [h]
    have hr : decide (x.d < y.d) = ahead x y := by unfold ahead; rw [if_neg h]
    have HR := Lib.hid hr; clear hr h
    go_enter Try.func70, Try.ntmps70
    go_wp2
    go_ret
    exact ⟨ret_b HR.out, bA (bA (Below.refl _ _) _) _⟩
theorem isAsSaid_any (x : Say) (n : Int) (w : World) :
    Calls Try.prog 71 #[.agg #[.int .i64 x.d, .int .i64 x.p, .int .i64 x.l, .int .i64 x.h], .int .i64 n] w fun e w' => e = .returned (.bool (within n x.l x.h)) ∧ Below w.heap.size w w' := by
  go_enter Try.func71, Try.ntmps71
  go_wp2_with (go_at_call 68; refine (isFrom_any _ _ _ _).mono ?_; rintro e w' ⟨rfl, rfl⟩)
  go_ret
  exact ⟨rfl, bA (Below.refl _ _) _⟩
def width (x : Say) : Int := x.h - x.l + 1
theorem widthR_any (x : Say) (w : World) (h0 : -100 ≤ x.l) (h1 : x.l ≤ 100) (h2 : -100 ≤ x.h) (h3 : x.h ≤ 100) :
    Calls Try.prog 63 #[.agg #[.int .i64 x.d, .int .i64 x.p, .int .i64 x.l, .int .i64 x.h]] w fun e w' => e = .returned (.int .i64 (width x)) ∧ Below w.heap.size w w' := by
  go_enter Try.func63, Try.ntmps63
  go_wp2
  go_ret
  exact ⟨rfl, bA (Below.refl _ _) _⟩
theorem width_any (x : Say) (w : World) (h0 : -100 ≤ x.l) (h1 : x.l ≤ 100) (h2 : -100 ≤ x.h) (h3 : x.h ≤ 100) :
    Calls Try.prog 72 #[.agg #[.int .i64 x.d, .int .i64 x.p, .int .i64 x.l, .int .i64 x.h]] w fun e w' => e = .returned (.int .i64 (width x)) ∧ Below w.heap.size w w' := by
  go_enter Try.func72, Try.ntmps72
  go_wp2
  go_ret
  exact ⟨rfl, bA (Below.refl _ _) _⟩

/-- what is found at a place -/
def Book.at (B : Book) (n : Int) : Int := (B.F[n.toNat]?).getD 0
theorem at_cell {B : Book} {w : World} {K b o : Nat} {n : Int} (h : IntsAt w K b o B.F) (h0 : 0 ≤ n) (h1 : n < B.F.length) : w.cell? ⟨b, o + n.toNat, none⟩ = some (.int .i64 (B.at n)) := by
  have hk : n.toNat < B.F.length := by omega
  rw [h.cell _ hk]
  simp [Book.at, List.getElem?_eq_getElem hk]
theorem isOpen_any (B : Book) (p q : Option Addr) (c d : Nat) (x : Say) (w : World) (hb : BookIn w w.heap.size B p q) (hf : B.F.length ≤ 1000000) (h0 : 0 ≤ x.p) (h1 : x.p < B.F.length) :
    Calls Try.prog 47 #[.agg #[.int .i64 B.D, .slice p B.F.length c, .int .i64 B.N, .slice q B.S.length d, .int .i64 B.P], .agg #[.int .i64 x.d, .int .i64 x.p, .int .i64 x.l, .int .i64 x.h]] w fun e w' => e = .returned (.bool (B.at x.p == 0)) ∧ Below w.heap.size w w' := by
  obtain ⟨b, o, rfl, hi⟩ := hb.f (by omega)
  have hc := at_cell hi h0 h1
  have hlt := hi.lt
  clear hi hb
  go_enter Try.func47, Try.ntmps47
  go_wp2
  go_ret
  exact ⟨rfl, bA (bA (Below.refl _ _) _) _⟩
end Go.Proofs.Ytaaocomgmacjnaa
