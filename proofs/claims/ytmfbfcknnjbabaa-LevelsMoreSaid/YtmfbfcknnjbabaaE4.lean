/- The contracts of the function that Clash makes, and of slices.Clone. -/
import Derived.Test.YtmfbfcknnjbabaaD2
import Derived.Test.YtmfbfcknnjbabaaA7
import Derived.WalkSpells
set_option linter.unusedSimpArgs false
set_option linter.unusedVariables false
namespace Go.Proofs.Ytmfbfcknnjbabaa
open Go.RowKit

theorem clash1_ex (a : Addr) (l : List Int) (p : Option Addr) (c : Nat) (k : Int) (w : World) (hl : l.length ≤ 1000000) (ha : w.cell? a = some (.slice p l.length c)) (h : Ints w p l) :
    Calls Try.prog 67 #[.int .i64 k, .pointer (some a)] w fun e w' => e = .returned (.bool (hasB l k)) ∧ Below w.heap.size w w' := by
  have hc := contains_any l p c k w hl h
  have HC := Lib.hid hc; clear hc h
  go_enter Try.func67, Try.ntmps67
  go_wp2_with (go_at_call 68; refine HC.out.mono ?_; rintro e w1 ⟨rfl, hb⟩; have HB := Lib.hid hb; clear hb)
  go_ret
  exact ⟨rfl, HB.out⟩

theorem info3e : (Try.prog.info? 3).map (fun i => (i.zero, i.size, i.bytes)) = some (some (.int .i64 0), 1, 8) := by kernel_rfl
set_option maxRecDepth 100000 in
set_option maxHeartbeats 2000000 in
/-- slices.Clone, of a slice that is not nil -/
theorem clone_any (l : List Int) (b : Nat) (c : Nat) (w : World) (hl : l.length ≤ 1000) (h : IntsAt w w.heap.size b 0 l) :
    Calls Try.prog 70 #[.slice (some ⟨b, 0, none⟩) l.length c] w fun e w' => ∃ v, e = .returned v ∧ w'.ownsRow w.heap.size 3 1 v l.length (l.map (Value.int .i64)) ∧ Below w.heap.size w w' := by
  obtain ⟨i0, hi, hz0, hz1, hz2⟩ := info_parts info3e
  have I1 := Lib.hid hi; have I2 := Lib.hid hz0; have I3 := Lib.hid hz1; have I4 := Lib.hid hz2; clear hi hz0 hz1 hz2
  have H := Lib.hid h; clear h
  have q26 : ∀ (w : World) (a : Option Addr) (n c n' c' : Nat), (binOp .eql 26 (.slice a n c) (.slice none n' c')).run Try.prog w = .ok (.bool a.isNone) w := fun w a n c n' c' => Lib.run_eql_slice_nil w _ _ a n c n' c' Try.underlying26
  go_enter Try.func70, Try.ntmps70
  go_wp2_with (at_builtin; refine wpList_append_own _ rfl _ _ 26 rfl w.heap.size 3 i0 _ 1 8 Try.underlying26 I1.out I2.out I3.out I4.out rfl (by decide) _ 0 [] rfl (World.ownsRow_lit (base := w.heap.size) (e := 3) (size := 1) w #[] 0 (Nat.le_refl _) (Nat.zero_le _) rfl) ⟨b, 0, none⟩ l.length c (l.map (Value.int .i64)) rfl (by simp) ?c1 ?c2 ?c3 ?c4 ?c5 ?_)
  case c1 =>
    intro j u hu
    have hlt := H.out.lt
    have hj : j < l.length := by
      have := (List.getElem?_eq_some_iff.1 hu).1; simpa using this
    have e : l[j]?.getD 0 = l[j] := by rw [List.getElem?_eq_getElem hj]; rfl
    have hc := H.out.cell j hj
    rw [e] at hc
    rw [List.getElem?_map, List.getElem?_eq_getElem hj] at hu
    obtain rfl : Value.int .i64 l[j] = u := Option.some.inj hu
    have := Lib.cell?_alloc_some (W := w) (a := ⟨b, 0 + j, none⟩) (Obj.cells #[] 3) hc
    have ea : (⟨b, 0, none⟩ : Addr).add j = ⟨b, 0 + j, none⟩ := by cases j <;> simp [Addr.add]
    rw [ea]
    exact this
  case c2 => intro u hu; obtain ⟨x, _, rfl⟩ := List.mem_map.1 hu; rfl
  case c3 => simp [maxLen]; omega
  case c4 => omega
  case c5 => simp
  intro v' w' how hgr hne
  have HO := Lib.hid how; have HG := Lib.hid hgr; clear how hgr
  go_wp2
  go_ret
  exact ⟨_, rfl, HO.out, below_grown (bA (Below.refl _ _) _) (World.ownsRow_lit (base := w.heap.size) (e := 3) (size := 1) w #[] 0 (Nat.le_refl _) (Nat.zero_le _) rfl) (Nat.le_refl _) HG.out⟩
end Go.Proofs.Ytmfbfcknnjbabaa
