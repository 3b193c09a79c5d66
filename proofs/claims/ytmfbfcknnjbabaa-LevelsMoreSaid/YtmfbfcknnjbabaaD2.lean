/- The contracts of slices.Index, slices.Contains, ascends and differs. -/
import Derived.Test.YtmfbfcknnjbabaaB4
set_option linter.unusedSimpArgs false
set_option linter.unusedVariables false
namespace Go.Proofs.Ytmfbfcknnjbabaa
open Go.RowKit

def Ints (w : World) (p : Option Addr) (l : List Int) : Prop := 0 < l.length → ∃ b o, p = some ⟨b, o, none⟩ ∧ IntsAt w w.heap.size b o l

def idx (l : List Int) (x : Int) : Int := match l.findIdx? (· == x) with
  | some i => (i : Int)
  | none => -1
def hasB (l : List Int) (x : Int) : Bool := l.contains x
def NoneTo (l : List Int) (x : Int) (k : Nat) : Prop := ∀ j, (h : j < l.length) → j < k → ¬ l[j] = x

/-- slices.Index -/
theorem index_any (l : List Int) (p : Option Addr) (c : Nat) (x : Int) (w : World) (hl : l.length ≤ 1000000) (h : Ints w p l) :
    Calls Try.prog 93 #[.slice p l.length c, .int .i64 x] w fun e w' => ∃ i : Int, e = .returned (.int .i64 i) ∧ (decide (0 ≤ i) = hasB l x) ∧ Below w.heap.size w w' := by
  have H := Lib.hid h; clear h
  go_enter Try.func93, Try.ntmps93
  go_wp2
  go_loopw [8] (fun i wr => ∃ k : Nat, i = .int .i64 k ∧ k ≤ l.length ∧ NoneTo l x k ∧ wr = w) (fun i _ => l.length - (intOf i).toNat)
  case atStart => exact ⟨0, rfl, Nat.zero_le _, fun j _ h => by omega, rfl⟩
  case round =>
    obtain ⟨k, rfl, hk, hn, rfl⟩ := hrel
    have HN := Lib.hid hn; clear hn
    by_cases hlt : k < l.length
    · obtain ⟨b, o, rfl, hi⟩ := H.out (by omega)
      have e0 := hi.cell k hlt
      clear hi
      by_cases hx : x = l[k]
      · have hb : (x == l[k]) = true := by simp [hx]
        have HX := Lib.hid hx; clear hx
        go_wp2
        go_ret
        exact ⟨_, rfl, by simp only [hasB]; rw [HX.out]; simp [List.getElem_mem hlt], Below.refl _ _⟩
      · have hb : (x == l[k]) = false := by simp [hx]
        have HX := Lib.hid hx; clear hx
        go_wp2
        go_roundw
        case rel => exact ⟨k + 1, by go_num, hlt, fun j hj hjk => by
          by_cases e : j = k
          · subst e; exact fun h => HX.out h.symm
          · exact HN.out j hj (by omega), by first | rfl | trivial⟩
        case measure => simp [intOf]; omega
    · go_wp2
      go_ret
      refine ⟨_, rfl, ?_, Below.refl _ _⟩
      have : hasB l x = false := by
        simp only [hasB, List.contains_eq_mem, decide_eq_false_iff_not]
        intro hm
        obtain ⟨j, hj, e⟩ := List.getElem_of_mem hm
        exact HN.out j hj (by omega) e
      rw [this]; rfl

/-- slices.Contains -/
theorem contains_any (l : List Int) (p : Option Addr) (c : Nat) (x : Int) (w : World) (hl : l.length ≤ 1000000) (h : Ints w p l) :
    Calls Try.prog 68 #[.slice p l.length c, .int .i64 x] w fun e w' => e = .returned (.bool (hasB l x)) ∧ Below w.heap.size w w' := by
  have hi := index_any l p c x w hl h
  have HI := Lib.hid hi; clear hi h
  go_enter Try.func68, Try.ntmps68
  go_wp2_with (go_at_call 93; refine HI.out.mono ?_; rintro e w1 ⟨i, rfl, hd, hb⟩; have HD := Lib.hid hd; have HB := Lib.hid hb; clear hd hb)
  go_ret
  exact ⟨ret_b HD.out, HB.out⟩

def ascB (l : List Int) (x : Int) : Bool := decide (l.length = 0) || decide (l[l.length - 1]?.getD 0 < x)
theorem ascends_any (l : List Int) (p : Option Addr) (c : Nat) (x : Int) (w : World) (hl : l.length ≤ 1000000) (h : Ints w p l) :
    Calls Try.prog 66 #[.slice p l.length c, .int .i64 x] w fun e w' => e = .returned (.bool (ascB l x)) ∧ Below w.heap.size w w' := by
  by_cases h0 : l.length = 0
  · have hb : ((l.length : Int) == 0) = true := by simp [h0]
    have HE : Hid (ascB l x = true) := by show _ = _; simp [ascB, h0]
    clear h0 h
    go_enter Try.func66, Try.ntmps66
    go_wp2
    go_ret
    exact ⟨ret_b HE.out.symm, Below.refl _ _⟩
  · obtain ⟨b, o, rfl, hi⟩ := h (by omega)
    have hb : ((l.length : Int) == 0) = false := by rw [beq_eq_false_iff_ne]; omega
    obtain ⟨m, hm⟩ : ∃ m, l.length = m + 1 := ⟨l.length - 1, by omega⟩
    have e0 := hi.cell m (by omega)
    obtain ⟨y, hy⟩ : ∃ y, l[m]?.getD 0 = y := ⟨_, rfl⟩
    rw [hy] at e0
    have HE : Hid (ascB l x = decide (y < x)) := by show _ = _; unfold ascB; rw [hm, show m + 1 - 1 = m from rfl, hy]; simp
    rw [hm] at hb hl ⊢
    clear h0 h hi hm hy
    go_enter Try.func66, Try.ntmps66
    go_wp2
    go_ret
    exact ⟨ret_b HE.out.symm, Below.refl _ _⟩

theorem differs_any (l : List Int) (p : Option Addr) (c : Nat) (x : Int) (w : World) (hl : l.length ≤ 1000000) (h : Ints w p l) :
    Calls Try.prog 81 #[.slice p l.length c, .int .i64 x] w fun e w' => e = .returned (.bool (!hasB l x)) ∧ Below w.heap.size w w' := by
  have hi := contains_any l p c x w hl h
  have HI := Lib.hid hi; clear hi h
  go_enter Try.func81, Try.ntmps81
  go_wp2_with (go_at_call 68; refine HI.out.mono ?_; rintro e w1 ⟨rfl, hb⟩; have HB := Lib.hid hb; clear hb)
  go_ret
  exact ⟨rfl, HB.out⟩
end Go.Proofs.Ytmfbfcknnjbabaa
