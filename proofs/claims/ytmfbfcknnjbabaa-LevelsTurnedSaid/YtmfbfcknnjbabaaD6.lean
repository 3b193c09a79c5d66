/- The contract of grow, of ascending lists. The contract of grow, of lists without a number twice. The contracts of lists, and of what it returns. -/
import Derived.Test.YtmfbfcknnjbabaaD3
import Derived.Deep.RegionHeld3
import Derived.Laws.MakeOwn
set_option linter.unusedSimpArgs false
set_option linter.unusedVariables false
namespace Go.Proofs.Ytmfbfcknnjbabaa
open Go.RowKit Go.Shelf
attribute [local go_sem] Oper.semAt_some

set_option maxRecDepth 100000 in
set_option maxHeartbeats 2000000 in
theorem grow66_in (l many n B : Nat) (J Jx : List Got → World → Prop) (hn : n ≤ 1000) (hm : many ≤ 1000)
    (hJ : ∀ s A A', J s A → Below B A A' → J s A')
    (hY : ∀ m pre x A, J pre A → PG x A → YieldAt Fence.wide m Try.prog l (encG x) A fun e A' => (e = .returned (.bool true) ∧ J (pre ++ [x]) A' ∧ Kp B A A') ∨ (e = .returned (.bool false) ∧ Jx (pre ++ [x]) A')) :
    ∀ (d m : Nat) (pre : List Int) (done : List Got) (g : Nat) (W : World), pre.length + d = n → B ≤ g → RowG W g n pre → J done W →
      CallsIn Fence.wide m Try.prog 92 #[.slice (some ⟨g, 0, none⟩) pre.length n, .int .i64 many, .int .i64 n, .func (.func 66) #[] #[], .func (.yield l) #[] #[]] W fun e W' =>
        (e = .returned (.bool true) ∧ J (done ++ got g n (ext ascB many d pre)) W' ∧ RowG W' g n pre ∧ W.heap.size ≤ W'.heap.size) ∨
        (e = .returned (.bool false) ∧ ∃ q, q <+: got g n (ext ascB many d pre) ∧ Jx (done ++ q) W') := by
  intro d
  induction d with
  | zero =>
    intro m pre done g W hd hg hr hj
    obtain rfl : pre.length = n := by omega
    obtain ⟨fn, tmps, assign, body, hy, hR⟩ := hY (m - 1) done (g, pre.length, pre) W hj ⟨rfl, by simp only; omega, hr.ints⟩
    have hb : ((pre.length : Int) == (pre.length : Int)) = true := by simp
    have HR := Lib.hid hr; have HRR := Lib.hid hR
    clear hr hR hj hY
    simp only [encG] at hy
    refine callsIn_of_wp Try.func92 rfl trivial ?_ rfl
    simp only [Try.ntmps92, List.size_toArray, List.length_cons, List.length_nil, Nat.reduceAdd, Nat.reduceSub, Array.replicate_succ, Array.replicate_zero, List.push_toArray, List.append_toArray, List.nil_append, List.cons_append]
    gi_wp2
    refine ⟨(fun h => by cases h), ?_⟩
    refine HRR.out.mono ?_
    rintro e W' (⟨rfl, hj2, hk2⟩ | ⟨rfl, hx2⟩)
    · have HJ2 := Lib.hid hj2; have HK2 := Lib.hid hk2; clear hj2 hk2
      gi_wp2
      go_ret
      exact .inl ⟨rfl, HJ2.out, HR.out.same (HK2.out.same g hg HR.out.lt), HK2.out.size⟩
    · have HX2 := Lib.hid hx2; clear hx2
      gi_wp2
      go_ret
      exact .inr ⟨rfl, _, List.prefix_refl _, HX2.out⟩
  | succ d ih =>
    intro m pre done g W hd hg hr hj
    have hb : ((pre.length : Int) == (n : Int)) = false := by rw [beq_eq_false_iff_ne]; omega
    have HR := Lib.hid hr; have HJ := Lib.hid hj; have IH := Lib.hid ih; have HD := Lib.hid hd
    have hlt : pre.length < n := by omega
    clear hr hj ih hd hY
    refine callsIn_of_wp Try.func92 rfl trivial ?_ rfl
    simp only [Try.ntmps92, List.size_toArray, List.length_cons, List.length_nil, Nat.reduceAdd, Nat.reduceSub, Array.replicate_succ, Array.replicate_zero, List.push_toArray, List.append_toArray, List.nil_append, List.cons_append]
    gi_wp2
    gi_loopw [20] (fun i wr => ∃ k : Nat, i = .int .i64 k ∧ k ≤ many ∧ J (done ++ got g n (extTo ascB d many pre k)) wr ∧ RowG wr g n pre ∧ W.heap.size ≤ wr.heap.size) (fun i _ => many - (intOf i).toNat)
    case atStart => exact ⟨0, rfl, Nat.zero_le _, by simpa [extTo, got] using HJ.out, HR.out, Nat.le_refl _⟩
    case round =>
      obtain ⟨k, rfl, hk, hj, hr, hz⟩ := hrel
      have HJK := Lib.hid hj; have HRK := Lib.hid hr; clear hj hr
      by_cases hkm : k < many
      · have hf := ascends_any pre (some ⟨g, 0, none⟩) n k wr (by omega) (fun _ => ⟨g, 0, rfl, HRK.out.ints⟩)
        cases hok : ascB pre (k : Int) with
        | false =>
          rw [hok] at hf
          have HF := Lib.hid hf
          have HE : Hid (extTo ascB d many pre (k + 1) = extTo ascB d many pre k) := by show _ = _; rw [extTo_succ, hok]; simp
          clear hf hok
          gi_wp2_with (refine ⟨trivial, (fun h => by cases h), ?_⟩; gi_at_call 66; refine (callsIn_wide.2 HF.out).mono ?_; rintro e w1 ⟨rfl, hb1⟩; have HB1 := Lib.hid hb1; clear hb1)
          refine ⟨trivial, ?_⟩
          gi_wp2
          go_roundw
          case rel => exact ⟨k + 1, by go_num, hkm, by rw [HE.out]; exact hJ _ _ _ HJK.out (HB1.out.mono (by have := HRK.out.lt; omega)), HRK.out.same (HB1.out.block _ HRK.out.lt), by have := HB1.out.size; omega⟩
          case measure => simp [intOf]; omega
        | true =>
          rw [hok] at hf
          have HF := Lib.hid hf
          have HE : Hid (extTo ascB d many pre (k + 1) = extTo ascB d many pre k ++ ext ascB many d (pre ++ [(k : Int)])) := by show _ = _; rw [extTo_succ, hok]; simp
          have hi2 : ∀ A, RowG A g n (pre ++ [(k : Int)]) → J (done ++ got g n (extTo ascB d many pre k)) A → CallsIn Fence.wide (m - 1) Try.prog 92 #[.slice (some ⟨g, 0, none⟩) (pre.length + 1) n, .int .i64 many, .int .i64 n, .func (.func 66) #[] #[], .func (.yield l) #[] #[]] A fun e W' =>
              (e = .returned (.bool true) ∧ J ((done ++ got g n (extTo ascB d many pre k)) ++ got g n (ext ascB many d (pre ++ [(k : Int)]))) W' ∧ RowG W' g n (pre ++ [(k : Int)]) ∧ A.heap.size ≤ W'.heap.size) ∨
              (e = .returned (.bool false) ∧ ∃ q, q <+: got g n (ext ascB many d (pre ++ [(k : Int)])) ∧ Jx ((done ++ got g n (extTo ascB d many pre k)) ++ q) W') := fun A hA hjA => by
            have := IH.out (m - 1) (pre ++ [(k : Int)]) (done ++ got g n (extTo ascB d many pre k)) g A (by have := HD.out; simp; omega) hg hA hjA
            simpa using this
          have HI2 := Lib.hid hi2
          obtain ⟨i0, hi, _, hz1, _⟩ := info_parts info3d
          have I1 := Lib.hid hi; have I3 := Lib.hid hz1
          clear hf hok hi2 hi hz1
          gi_wp2_with (first
            | (refine ⟨trivial, (fun h => by cases h), ?_⟩; gi_at_call 66; refine (callsIn_wide.2 HF.out).mono ?_; rintro e w1 ⟨rfl, hb1⟩; have HB1 := Lib.hid hb1; clear hb1)
            | (gi_at_builtin; refine wpListIn_append_spare _ (by rfl) (.tmp 28) (.tmp 30) 26 (by rfl) 0 3 i0 1 Try.underlying26 I1.out I3.out g pre.length n (pre.map (Value.int .i64)) (by rfl) (World.ownsRow.alloc (HRK.out.same (HB1.out.block _ HRK.out.lt)) _) ⟨w1.heap.size, 0, none⟩ 1 1 [.int .i64 k] (by rfl) rfl (World.news_of_block (cs := #[.int .i64 k]) (t := 3) (fr := (0, 0)) (heap_alloc_new w1 _)) (by simp [Value.oneCell']) (by omega) ?_; intro w2 hown hgr; have HOW := Lib.hid hown; have HGR := Lib.hid hgr; clear hown hgr)
            | (refine ⟨trivial, (fun h => by cases h), ?_⟩; gi_at_call 92; refine (HI2.out _ (by have := HOW.out; simpa [RowG] using this) (hJ _ _ _ HJK.out (row_below (B := B) HB1.out HGR.out HRK.out.lt hg))).mono ?_; clear HI2; rintro e w3 (⟨rfl, hj3, hr3, hz3⟩ | ⟨rfl, q, hq, hx3⟩)))
          · have HJ3 := Lib.hid hj3
            have hsz : W.heap.size ≤ w3.heap.size := by have a1 := HB1.out.size; have a2 := HGR.out.size; simp at a2; omega
            go_roundw
            case rel => exact ⟨k + 1, by go_num, hkm, by rw [HE.out, got_append, ← List.append_assoc]; exact HJ3.out, hr3.init, hsz⟩
            case measure => simp [intOf]; omega
          · go_ret
            refine .inr ⟨rfl, got g n (extTo ascB d many pre k) ++ q, ?_, by rw [← List.append_assoc]; exact hx3⟩
            have h1 : got g n (extTo ascB d many pre k) ++ q <+: got g n (extTo ascB d many pre (k + 1)) := by
              rw [HE.out, got_append]
              obtain ⟨r, hr⟩ := hq
              exact ⟨r, by rw [List.append_assoc, hr]⟩
            exact h1.trans (List.IsPrefix.map _ (extTo_prefix ascB d many pre (by omega)))
      · obtain rfl : k = many := by omega
        gi_wp2
        go_ret
        exact .inl ⟨rfl, HJK.out, HRK.out, hz⟩
end Go.Proofs.Ytmfbfcknnjbabaa

namespace Go.Proofs.Ytmfbfcknnjbabaa
open Go.RowKit Go.Shelf
attribute [local go_sem] Oper.semAt_some
def difB (l : List Int) (x : Int) : Bool := !hasB l x

set_option maxRecDepth 100000 in
set_option maxHeartbeats 2000000 in
theorem grow81_in (l many n B : Nat) (J Jx : List Got → World → Prop) (hn : n ≤ 1000) (hm : many ≤ 1000)
    (hJ : ∀ s A A', J s A → Below B A A' → J s A')
    (hY : ∀ m pre x A, J pre A → PG x A → YieldAt Fence.wide m Try.prog l (encG x) A fun e A' => (e = .returned (.bool true) ∧ J (pre ++ [x]) A' ∧ Kp B A A') ∨ (e = .returned (.bool false) ∧ Jx (pre ++ [x]) A')) :
    ∀ (d m : Nat) (pre : List Int) (done : List Got) (g : Nat) (W : World), pre.length + d = n → B ≤ g → RowG W g n pre → J done W →
      CallsIn Fence.wide m Try.prog 92 #[.slice (some ⟨g, 0, none⟩) pre.length n, .int .i64 many, .int .i64 n, .func (.func 81) #[] #[], .func (.yield l) #[] #[]] W fun e W' =>
        (e = .returned (.bool true) ∧ J (done ++ got g n (ext difB many d pre)) W' ∧ RowG W' g n pre ∧ W.heap.size ≤ W'.heap.size) ∨
        (e = .returned (.bool false) ∧ ∃ q, q <+: got g n (ext difB many d pre) ∧ Jx (done ++ q) W') := by
  intro d
  induction d with
  | zero =>
    intro m pre done g W hd hg hr hj
    obtain rfl : pre.length = n := by omega
    obtain ⟨fn, tmps, assign, body, hy, hR⟩ := hY (m - 1) done (g, pre.length, pre) W hj ⟨rfl, by simp only; omega, hr.ints⟩
    have hb : ((pre.length : Int) == (pre.length : Int)) = true := by simp
    have HR := Lib.hid hr; have HRR := Lib.hid hR
    clear hr hR hj hY
    simp only [encG] at hy
    refine callsIn_of_wp Try.func92 rfl trivial ?_ rfl
    simp only [Try.ntmps92, List.size_toArray, List.length_cons, List.length_nil, Nat.reduceAdd, Nat.reduceSub, Array.replicate_succ, Array.replicate_zero, List.push_toArray, List.append_toArray, List.nil_append, List.cons_append]
    gi_wp2
    refine ⟨(fun h => by cases h), ?_⟩
    refine HRR.out.mono ?_
    rintro e W' (⟨rfl, hj2, hk2⟩ | ⟨rfl, hx2⟩)
    · have HJ2 := Lib.hid hj2; have HK2 := Lib.hid hk2; clear hj2 hk2
      gi_wp2
      go_ret
      exact .inl ⟨rfl, HJ2.out, HR.out.same (HK2.out.same g hg HR.out.lt), HK2.out.size⟩
    · have HX2 := Lib.hid hx2; clear hx2
      gi_wp2
      go_ret
      exact .inr ⟨rfl, _, List.prefix_refl _, HX2.out⟩
  | succ d ih =>
    intro m pre done g W hd hg hr hj
    have hb : ((pre.length : Int) == (n : Int)) = false := by rw [beq_eq_false_iff_ne]; omega
    have HR := Lib.hid hr; have HJ := Lib.hid hj; have IH := Lib.hid ih; have HD := Lib.hid hd
    have hlt : pre.length < n := by omega
    clear hr hj ih hd hY
    refine callsIn_of_wp Try.func92 rfl trivial ?_ rfl
    simp only [Try.ntmps92, List.size_toArray, List.length_cons, List.length_nil, Nat.reduceAdd, Nat.reduceSub, Array.replicate_succ, Array.replicate_zero, List.push_toArray, List.append_toArray, List.nil_append, List.cons_append]
    gi_wp2
    gi_loopw [20] (fun i wr => ∃ k : Nat, i = .int .i64 k ∧ k ≤ many ∧ J (done ++ got g n (extTo difB d many pre k)) wr ∧ RowG wr g n pre ∧ W.heap.size ≤ wr.heap.size) (fun i _ => many - (intOf i).toNat)
    case atStart => exact ⟨0, rfl, Nat.zero_le _, by simpa [extTo, got] using HJ.out, HR.out, Nat.le_refl _⟩
    case round =>
      obtain ⟨k, rfl, hk, hj, hr, hz⟩ := hrel
      have HJK := Lib.hid hj; have HRK := Lib.hid hr; clear hj hr
      by_cases hkm : k < many
      · have hf : Calls Try.prog 81 #[.slice (some ⟨g, 0, none⟩) pre.length n, .int .i64 k] wr fun e w' => e = .returned (.bool (difB pre k)) ∧ Below wr.heap.size wr w' := differs_any pre (some ⟨g, 0, none⟩) n k wr (by omega) (fun _ => ⟨g, 0, rfl, HRK.out.ints⟩)
        cases hok : difB pre (k : Int) with
        | false =>
          rw [hok] at hf
          have HF := Lib.hid hf
          have HE : Hid (extTo difB d many pre (k + 1) = extTo difB d many pre k) := by show _ = _; rw [extTo_succ, hok]; simp
          clear hf hok
          gi_wp2_with (refine ⟨trivial, (fun h => by cases h), ?_⟩; gi_at_call 81; refine (callsIn_wide.2 HF.out).mono ?_; rintro e w1 ⟨rfl, hb1⟩; have HB1 := Lib.hid hb1; clear hb1)
          refine ⟨trivial, ?_⟩
          gi_wp2
          go_roundw
          case rel => exact ⟨k + 1, by go_num, hkm, by rw [HE.out]; exact hJ _ _ _ HJK.out (HB1.out.mono (by have := HRK.out.lt; omega)), HRK.out.same (HB1.out.block _ HRK.out.lt), by have := HB1.out.size; omega⟩
          case measure => simp [intOf]; omega
        | true =>
          rw [hok] at hf
          have HF := Lib.hid hf
          have HE : Hid (extTo difB d many pre (k + 1) = extTo difB d many pre k ++ ext difB many d (pre ++ [(k : Int)])) := by show _ = _; rw [extTo_succ, hok]; simp
          have hi2 : ∀ A, RowG A g n (pre ++ [(k : Int)]) → J (done ++ got g n (extTo difB d many pre k)) A → CallsIn Fence.wide (m - 1) Try.prog 92 #[.slice (some ⟨g, 0, none⟩) (pre.length + 1) n, .int .i64 many, .int .i64 n, .func (.func 81) #[] #[], .func (.yield l) #[] #[]] A fun e W' =>
              (e = .returned (.bool true) ∧ J ((done ++ got g n (extTo difB d many pre k)) ++ got g n (ext difB many d (pre ++ [(k : Int)]))) W' ∧ RowG W' g n (pre ++ [(k : Int)]) ∧ A.heap.size ≤ W'.heap.size) ∨
              (e = .returned (.bool false) ∧ ∃ q, q <+: got g n (ext difB many d (pre ++ [(k : Int)])) ∧ Jx ((done ++ got g n (extTo difB d many pre k)) ++ q) W') := fun A hA hjA => by
            have := IH.out (m - 1) (pre ++ [(k : Int)]) (done ++ got g n (extTo difB d many pre k)) g A (by have := HD.out; simp; omega) hg hA hjA
            simpa using this
          have HI2 := Lib.hid hi2
          obtain ⟨i0, hi, _, hz1, _⟩ := info_parts info3d
          have I1 := Lib.hid hi; have I3 := Lib.hid hz1
          clear hf hok hi2 hi hz1
          gi_wp2_with (first
            | (refine ⟨trivial, (fun h => by cases h), ?_⟩; gi_at_call 81; refine (callsIn_wide.2 HF.out).mono ?_; rintro e w1 ⟨rfl, hb1⟩; have HB1 := Lib.hid hb1; clear hb1)
            | (gi_at_builtin; refine wpListIn_append_spare _ (by rfl) (.tmp 28) (.tmp 30) 26 (by rfl) 0 3 i0 1 Try.underlying26 I1.out I3.out g pre.length n (pre.map (Value.int .i64)) (by rfl) (World.ownsRow.alloc (HRK.out.same (HB1.out.block _ HRK.out.lt)) _) ⟨w1.heap.size, 0, none⟩ 1 1 [.int .i64 k] (by rfl) rfl (World.news_of_block (cs := #[.int .i64 k]) (t := 3) (fr := (0, 0)) (heap_alloc_new w1 _)) (by simp [Value.oneCell']) (by omega) ?_; intro w2 hown hgr; have HOW := Lib.hid hown; have HGR := Lib.hid hgr; clear hown hgr)
            | (refine ⟨trivial, (fun h => by cases h), ?_⟩; gi_at_call 92; refine (HI2.out _ (by have := HOW.out; simpa [RowG] using this) (hJ _ _ _ HJK.out (row_below (B := B) HB1.out HGR.out HRK.out.lt hg))).mono ?_; clear HI2; rintro e w3 (⟨rfl, hj3, hr3, hz3⟩ | ⟨rfl, q, hq, hx3⟩)))
          · have HJ3 := Lib.hid hj3
            have hsz : W.heap.size ≤ w3.heap.size := by have a1 := HB1.out.size; have a2 := HGR.out.size; simp at a2; omega
            go_roundw
            case rel => exact ⟨k + 1, by go_num, hkm, by rw [HE.out, got_append, ← List.append_assoc]; exact HJ3.out, hr3.init, hsz⟩
            case measure => simp [intOf]; omega
          · go_ret
            refine .inr ⟨rfl, got g n (extTo difB d many pre k) ++ q, ?_, by rw [← List.append_assoc]; exact hx3⟩
            have h1 : got g n (extTo difB d many pre k) ++ q <+: got g n (extTo difB d many pre (k + 1)) := by
              rw [HE.out, got_append]
              obtain ⟨r, hr⟩ := hq
              exact ⟨r, by rw [List.append_assoc, hr]⟩
            exact h1.trans (List.IsPrefix.map _ (extTo_prefix difB d many pre (by omega)))
      · obtain rfl : k = many := by omega
        gi_wp2
        go_ret
        exact .inl ⟨rfl, HJK.out, HRK.out, hz⟩
end Go.Proofs.Ytmfbfcknnjbabaa

namespace Go.Proofs.Ytmfbfcknnjbabaa
open Go.RowKit Go.Shelf

theorem make_ints (n : Nat) (hn : n ≤ 1000) (W : World) : (Instr.makeSlice 26 (.int .i64 0) (.int .i64 (n : Int))).run Try.prog W = .ok (.slice (some ⟨W.heap.size, 0, none⟩) 0 n) (W.alloc (.cells (madeCells #[.int .i64 0] n) 3)) := by
  obtain ⟨i0, hi, hz, hs, hb⟩ := info_parts info3d
  have := run_make (P := Try.prog) W 26 3 i0 _ Try.underlying26 hi hz .i64 .i64 0 (n : Int) (by omega) (by omega) (by rw [hb]; omega) (by omega)
  simpa [hs, Value.cells] using this
theorem row_made (W : World) (n : Nat) (hn : n ≤ 1000) : RowG (W.alloc (.cells (madeCells #[.int .i64 0] n) 3)) W.heap.size n [] := by
  have := World.ownsRow_made (base := 0) (e := 3) (size := 1) W (madeCells #[.int .i64 0] n) n (Nat.zero_le _) (by unfold maxLen; omega) (by rw [size_madeCells]; omega)
  simpa [RowG] using this

theorem row_drew {W : World} {g n : Nat} {l : List Int} (h : RowG W g n l) : RowG W.drew g n l := h
theorem bd' {B : Nat} {a w : World} (h : Below B a w) : Below B a w.drew := ⟨h.os, h.tape, h.output, h.size, h.block⟩
theorem bA' {B : Nat} {a w : World} (h : Below B a w) (o : Obj) (hb : B ≤ w.heap.size) : Below B a (w.alloc o) := h.alloc hb o

/-- lists, of 66 -/
theorem lists66_ex (many n : Int) (w : World) :
    Calls Try.prog 65 #[.int .i64 many, .int .i64 n, .func (.func 66) #[] #[]] w fun e w' => e = .returned (.func (.func 91) #[] #[.pointer (some ⟨w.heap.size + 1, 0, none⟩), .pointer (some ⟨w.heap.size, 0, none⟩), .pointer (some ⟨w.heap.size + 2, 0, none⟩)]) ∧
      ((w.alloc (.cells #[.int .i64 many] 3)).alloc (.cells #[.int .i64 n] 3)).alloc (.cells #[.func (.func 66) #[] #[]] 90) = w' := by
  go_enter Try.func65, Try.ntmps65
  go_wp2
  go_ret
  exact ⟨rfl, rfl⟩

def GP66 (J Jx : List Got → World → Prop) (many n g : Nat) (b : Bool) (W' : World) : Prop :=
  (b = true ∧ J (got g n (ext ascB many n [])) W') ∨ (b = false ∧ ∃ q, q <+: got g n (ext ascB many n []) ∧ Jx q W')

set_option maxRecDepth 100000 in
set_option maxHeartbeats 2000000 in
/-- what the iterator does -/
theorem lists166_any (l many n B b1 b2 b3 : Nat) (J Jx : List Got → World → Prop) (W : World) (hn : n ≤ 1000) (hm : many ≤ 1000) (hB : B ≤ W.heap.size)
    (hJ : ∀ s A A', J s A → Below B A A' → J s A')
    (hY : ∀ m pre x A, J pre A → PG x A → YieldAt Fence.wide m Try.prog l (encG x) A fun e A' => (e = .returned (.bool true) ∧ J (pre ++ [x]) A' ∧ Kp B A A') ∨ (e = .returned (.bool false) ∧ Jx (pre ++ [x]) A'))
    (hC : ∀ s A, J s A ∨ Jx s A → A.cell? ⟨b1, 0, none⟩ = some (.int .i64 n) ∧ A.cell? ⟨b2, 0, none⟩ = some (.int .i64 many) ∧ A.cell? ⟨b3, 0, none⟩ = some (.func (.func 66) #[] #[]))
    (c1 : W.cell? ⟨b1, 0, none⟩ = some (.int .i64 n)) (c2 : W.cell? ⟨b2, 0, none⟩ = some (.int .i64 many)) (c3 : W.cell? ⟨b3, 0, none⟩ = some (.func (.func 66) #[] #[])) (h0 : J [] W) :
    Calls Try.prog 91 #[.func (.yield l) #[] #[], .pointer (some ⟨b1, 0, none⟩), .pointer (some ⟨b2, 0, none⟩), .pointer (some ⟨b3, 0, none⟩)] W fun e A' => (∃ v, e = .returned v) ∧
      ((∃ xs : List Got, xs.map (fun x => x.2.2) = ext ascB many n [] ∧ J xs A') ∨ (∃ pre : List Got, (pre.map fun x => x.2.2) <+: ext ascB many n [] ∧ Jx pre A')) := by
  have hgrow : ∀ (A : World) (g : Nat), RowG A g n [] → B ≤ g → J [] A → Calls Try.prog 92 #[.slice (some ⟨g, 0, none⟩) 0 n, .int .i64 many, .int .i64 n, .func (.func 66) #[] #[], .func (.yield l) #[] #[]] A fun e W' => ∃ b, e = .returned (.bool b) ∧ GP66 J Jx many n g b W' ∧ W'.cell? ⟨b1, 0, none⟩ = some (.int .i64 n) ∧ W'.cell? ⟨b2, 0, none⟩ = some (.int .i64 many) ∧ W'.cell? ⟨b3, 0, none⟩ = some (.func (.func 66) #[] #[]) := fun A g hr hg hj => by
    have := callsIn_wide.1 (grow66_in l many n B J Jx hn hm hJ hY n 1 [] [] g A (by simp) hg hr hj)
    refine this.mono ?_
    rintro e W' (⟨rfl, h1, _⟩ | ⟨rfl, q, hq, hx⟩)
    · exact ⟨true, rfl, .inl ⟨rfl, by simpa using h1⟩, hC _ _ (.inl h1)⟩
    · exact ⟨false, rfl, .inr ⟨rfl, q, hq, by simpa using hx⟩, hC _ _ (.inr hx)⟩
  have HG := Lib.hid hgrow; have HJ := Lib.hid hJ; have H0 := Lib.hid h0
  have hmk := fun W => make_ints n hn W
  have l1 := World.block_lt_of_cell? W _ c1
  have l2 := World.block_lt_of_cell? W _ c2
  have l3 := World.block_lt_of_cell? W _ c3
  clear hgrow hJ hY h0 hC
  go_enter Try.func91, Try.ntmps91
  go_wp2
  go_region_held3 (fun w' => w'.cell? ⟨b1, 0, none⟩ = some (.int .i64 n) ∧ w'.cell? ⟨b2, 0, none⟩ = some (.int .i64 many) ∧ w'.cell? ⟨b3, 0, none⟩ = some (.func (.func 66) #[] #[]))
    (first | go_keep | exact ⟨d1, d2, d3⟩)
    (first | (go_at_call 92; refine (HG.out _ W.heap.size (row_drew (row_made W n hn)) hB (HJ.out _ _ _ H0.out (bd' (bA' (Below.refl _ _) _ hB)))).mono ?_; rintro e w1 ⟨b, rfl, hp, d1, d2, d3⟩; have HP := Lib.hid hp; clear hp))
  all_goals
    go_wp2
    go_end0
    refine ⟨⟨_, rfl⟩, ?_⟩
    rcases HP.out with ⟨_, h⟩ | ⟨_, q, hq, hx⟩
    · exact .inl ⟨_, by simp [got, Function.comp_def], h⟩
    · refine .inr ⟨q, ?_, hx⟩
      have := List.IsPrefix.map (fun x : Got => x.2.2) hq
      simpa [got, Function.comp_def] using this

/-- lists, of 81 -/
theorem lists81_ex (many n : Int) (w : World) :
    Calls Try.prog 65 #[.int .i64 many, .int .i64 n, .func (.func 81) #[] #[]] w fun e w' => e = .returned (.func (.func 91) #[] #[.pointer (some ⟨w.heap.size + 1, 0, none⟩), .pointer (some ⟨w.heap.size, 0, none⟩), .pointer (some ⟨w.heap.size + 2, 0, none⟩)]) ∧
      ((w.alloc (.cells #[.int .i64 many] 3)).alloc (.cells #[.int .i64 n] 3)).alloc (.cells #[.func (.func 81) #[] #[]] 90) = w' := by
  go_enter Try.func65, Try.ntmps65
  go_wp2
  go_ret
  exact ⟨rfl, rfl⟩

def GP81 (J Jx : List Got → World → Prop) (many n g : Nat) (b : Bool) (W' : World) : Prop :=
  (b = true ∧ J (got g n (ext difB many n [])) W') ∨ (b = false ∧ ∃ q, q <+: got g n (ext difB many n []) ∧ Jx q W')

set_option maxRecDepth 100000 in
set_option maxHeartbeats 2000000 in
/-- what the iterator does -/
theorem lists181_any (l many n B b1 b2 b3 : Nat) (J Jx : List Got → World → Prop) (W : World) (hn : n ≤ 1000) (hm : many ≤ 1000) (hB : B ≤ W.heap.size)
    (hJ : ∀ s A A', J s A → Below B A A' → J s A')
    (hY : ∀ m pre x A, J pre A → PG x A → YieldAt Fence.wide m Try.prog l (encG x) A fun e A' => (e = .returned (.bool true) ∧ J (pre ++ [x]) A' ∧ Kp B A A') ∨ (e = .returned (.bool false) ∧ Jx (pre ++ [x]) A'))
    (hC : ∀ s A, J s A ∨ Jx s A → A.cell? ⟨b1, 0, none⟩ = some (.int .i64 n) ∧ A.cell? ⟨b2, 0, none⟩ = some (.int .i64 many) ∧ A.cell? ⟨b3, 0, none⟩ = some (.func (.func 81) #[] #[]))
    (c1 : W.cell? ⟨b1, 0, none⟩ = some (.int .i64 n)) (c2 : W.cell? ⟨b2, 0, none⟩ = some (.int .i64 many)) (c3 : W.cell? ⟨b3, 0, none⟩ = some (.func (.func 81) #[] #[])) (h0 : J [] W) :
    Calls Try.prog 91 #[.func (.yield l) #[] #[], .pointer (some ⟨b1, 0, none⟩), .pointer (some ⟨b2, 0, none⟩), .pointer (some ⟨b3, 0, none⟩)] W fun e A' => (∃ v, e = .returned v) ∧
      ((∃ xs : List Got, xs.map (fun x => x.2.2) = ext difB many n [] ∧ J xs A') ∨ (∃ pre : List Got, (pre.map fun x => x.2.2) <+: ext difB many n [] ∧ Jx pre A')) := by
  have hgrow : ∀ (A : World) (g : Nat), RowG A g n [] → B ≤ g → J [] A → Calls Try.prog 92 #[.slice (some ⟨g, 0, none⟩) 0 n, .int .i64 many, .int .i64 n, .func (.func 81) #[] #[], .func (.yield l) #[] #[]] A fun e W' => ∃ b, e = .returned (.bool b) ∧ GP81 J Jx many n g b W' ∧ W'.cell? ⟨b1, 0, none⟩ = some (.int .i64 n) ∧ W'.cell? ⟨b2, 0, none⟩ = some (.int .i64 many) ∧ W'.cell? ⟨b3, 0, none⟩ = some (.func (.func 81) #[] #[]) := fun A g hr hg hj => by
    have := callsIn_wide.1 (grow81_in l many n B J Jx hn hm hJ hY n 1 [] [] g A (by simp) hg hr hj)
    refine this.mono ?_
    rintro e W' (⟨rfl, h1, _⟩ | ⟨rfl, q, hq, hx⟩)
    · exact ⟨true, rfl, .inl ⟨rfl, by simpa using h1⟩, hC _ _ (.inl h1)⟩
    · exact ⟨false, rfl, .inr ⟨rfl, q, hq, by simpa using hx⟩, hC _ _ (.inr hx)⟩
  have HG := Lib.hid hgrow; have HJ := Lib.hid hJ; have H0 := Lib.hid h0
  have hmk := fun W => make_ints n hn W
  have l1 := World.block_lt_of_cell? W _ c1
  have l2 := World.block_lt_of_cell? W _ c2
  have l3 := World.block_lt_of_cell? W _ c3
  clear hgrow hJ hY h0 hC
  go_enter Try.func91, Try.ntmps91
  go_wp2
  go_region_held3 (fun w' => w'.cell? ⟨b1, 0, none⟩ = some (.int .i64 n) ∧ w'.cell? ⟨b2, 0, none⟩ = some (.int .i64 many) ∧ w'.cell? ⟨b3, 0, none⟩ = some (.func (.func 81) #[] #[]))
    (first | go_keep | exact ⟨d1, d2, d3⟩)
    (first | (go_at_call 92; refine (HG.out _ W.heap.size (row_drew (row_made W n hn)) hB (HJ.out _ _ _ H0.out (bd' (bA' (Below.refl _ _) _ hB)))).mono ?_; rintro e w1 ⟨b, rfl, hp, d1, d2, d3⟩; have HP := Lib.hid hp; clear hp))
  all_goals
    go_wp2
    go_end0
    refine ⟨⟨_, rfl⟩, ?_⟩
    rcases HP.out with ⟨_, h⟩ | ⟨_, q, hq, hx⟩
    · exact .inl ⟨_, by simp [got, Function.comp_def], h⟩
    · refine .inr ⟨q, ?_, hx⟩
      have := List.IsPrefix.map (fun x : Got => x.2.2) hq
      simpa [got, Function.comp_def] using this
end Go.Proofs.Ytmfbfcknnjbabaa
