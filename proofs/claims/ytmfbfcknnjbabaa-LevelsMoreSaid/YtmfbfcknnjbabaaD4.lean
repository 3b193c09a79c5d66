/- The contract of grow, of ascending lists. -/
import Derived.Test.YtmfbfcknnjbabaaD3
set_option linter.unusedSimpArgs false
set_option linter.unusedVariables false
namespace Go.Proofs.Ytmfbfcknnjbabaa
open Go.RowKit Go.Shelf
attribute [local go_sem] Oper.semAt_some

set_option maxRecDepth 100000 in
set_option maxHeartbeats 2000000 in
theorem grow66_in (l many n B : Nat) (J Jx : List Got → World → Prop) (hn : n ≤ 1000) (hm : many ≤ 1000)
    (hJ : ∀ s A A', J s A → Below B A A' → J s A')
    (hY : ∀ m pre x A, J pre A → PG x A → YieldAt Fence.wide m Try.prog l (encG x) A fun e A' => (e = .returned (.bool true) ∧ J (pre ++ [x]) A' ∧ Kp B A A') ∨ (e = .returned (.bool false) ∧ Jx (pre ++ [x]) A')) :
    ∀ (d m : Nat) (pre : List Int) (done : List Got) (g : Nat) (W : World), pre.length + d = n → B ≤ g → RowG W g n pre → J done W →
      CallsIn Fence.wide m Try.prog 92 #[.slice (some ⟨g, 0, none⟩) pre.length n, .int .i64 many, .int .i64 n, .func (.func 66) #[] #[], .func (.yield l) #[] #[]] W fun e W' =>
        (e = .returned (.bool true) ∧ J (done ++ got g n (ext ascB many d pre)) W' ∧ RowG W' g n pre ∧ W.heap.size ≤ W'.heap.size) ∨
        (e = .returned (.bool false) ∧ ∃ q, q <+: got g n (ext ascB many d pre) ∧ Jx (done ++ q) W') := by
  intro d
  induction d with
  | zero =>
    intro m pre done g W hd hg hr hj
    obtain rfl : pre.length = n := by omega
    obtain ⟨fn, tmps, assign, body, hy, hR⟩ := hY (m - 1) done (g, pre.length, pre) W hj ⟨rfl, by simp only; omega, hr.ints⟩
    have hb : ((pre.length : Int) == (pre.length : Int)) = true := by simp
    have HR := Lib.hid hr; have HRR := Lib.hid hR
    clear hr hR hj hY
    simp only [encG] at hy
    refine callsIn_of_wp Try.func92 rfl trivial ?_ rfl
    simp only [Try.ntmps92, List.size_toArray, List.length_cons, List.length_nil, Nat.reduceAdd, Nat.reduceSub, Array.replicate_succ, Array.replicate_zero, List.push_toArray, List.append_toArray, List.nil_append, List.cons_append]
    gi_wp2
    refine ⟨(fun h => by cases h), ?_⟩
    refine HRR.out.mono ?_
    rintro e W' (⟨rfl, hj2, hk2⟩ | ⟨rfl, hx2⟩)
    · have HJ2 := Lib.hid hj2; have HK2 := Lib.hid hk2; clear hj2 hk2
      gi_wp2
      go_ret
      exact .inl ⟨rfl, HJ2.out, HR.out.same (HK2.out.same g hg HR.out.lt), HK2.out.size⟩
    · have HX2 := Lib.hid hx2; clear hx2
      gi_wp2
      go_ret
      exact .inr ⟨rfl, _, List.prefix_refl _, HX2.out⟩
  | succ d ih =>
    intro m pre done g W hd hg hr hj
    have hb : ((pre.length : Int) == (n : Int)) = false := by rw [beq_eq_false_iff_ne]; omega
    have HR := Lib.hid hr; have HJ := Lib.hid hj; have IH := Lib.hid ih; have HD := Lib.hid hd
    have hlt : pre.length < n := by omega
    clear hr hj ih hd hY
    refine callsIn_of_wp Try.func92 rfl trivial ?_ rfl
    simp only [Try.ntmps92, List.size_toArray, List.length_cons, List.length_nil, Nat.reduceAdd, Nat.reduceSub, Array.replicate_succ, Array.replicate_zero, List.push_toArray, List.append_toArray, List.nil_append, List.cons_append]
    gi_wp2
    gi_loopw [20] (fun i wr => ∃ k : Nat, i = .int .i64 k ∧ k ≤ many ∧ J (done ++ got g n (extTo ascB d many pre k)) wr ∧ RowG wr g n pre ∧ W.heap.size ≤ wr.heap.size) (fun i _ => many - (intOf i).toNat)
    case atStart => exact ⟨0, rfl, Nat.zero_le _, by simpa [extTo, got] using HJ.out, HR.out, Nat.le_refl _⟩
    case round =>
      obtain ⟨k, rfl, hk, hj, hr, hz⟩ := hrel
      have HJK := Lib.hid hj; have HRK := Lib.hid hr; clear hj hr
      by_cases hkm : k < many
      · have hf := ascends_any pre (some ⟨g, 0, none⟩) n k wr (by omega) (fun _ => ⟨g, 0, rfl, HRK.out.ints⟩)
        cases hok : ascB pre (k : Int) with
        | false =>
          rw [hok] at hf
          have HF := Lib.hid hf
          have HE : Hid (extTo ascB d many pre (k + 1) = extTo ascB d many pre k) := by show _ = _; rw [extTo_succ, hok]; simp
          clear hf hok
          gi_wp2_with (refine ⟨trivial, (fun h => by cases h), ?_⟩; gi_at_call 66; refine (callsIn_wide.2 HF.out).mono ?_; rintro e w1 ⟨rfl, hb1⟩; have HB1 := Lib.hid hb1; clear hb1)
          refine ⟨trivial, ?_⟩
          gi_wp2
          go_roundw
          case rel => exact ⟨k + 1, by go_num, hkm, by rw [HE.out]; exact hJ _ _ _ HJK.out (HB1.out.mono (by have := HRK.out.lt; omega)), HRK.out.same (HB1.out.block _ HRK.out.lt), by have := HB1.out.size; omega⟩
          case measure => simp [intOf]; omega
        | true =>
          rw [hok] at hf
          have HF := Lib.hid hf
          have HE : Hid (extTo ascB d many pre (k + 1) = extTo ascB d many pre k ++ ext ascB many d (pre ++ [(k : Int)])) := by show _ = _; rw [extTo_succ, hok]; simp
          have hi2 : ∀ A, RowG A g n (pre ++ [(k : Int)]) → J (done ++ got g n (extTo ascB d many pre k)) A → CallsIn Fence.wide (m - 1) Try.prog 92 #[.slice (some ⟨g, 0, none⟩) (pre.length + 1) n, .int .i64 many, .int .i64 n, .func (.func 66) #[] #[], .func (.yield l) #[] #[]] A fun e W' =>
              (e = .returned (.bool true) ∧ J ((done ++ got g n (extTo ascB d many pre k)) ++ got g n (ext ascB many d (pre ++ [(k : Int)]))) W' ∧ RowG W' g n (pre ++ [(k : Int)]) ∧ A.heap.size ≤ W'.heap.size) ∨
              (e = .returned (.bool false) ∧ ∃ q, q <+: got g n (ext ascB many d (pre ++ [(k : Int)])) ∧ Jx ((done ++ got g n (extTo ascB d many pre k)) ++ q) W') := fun A hA hjA => by
            have := IH.out (m - 1) (pre ++ [(k : Int)]) (done ++ got g n (extTo ascB d many pre k)) g A (by have := HD.out; simp; omega) hg hA hjA
            simpa using this
          have HI2 := Lib.hid hi2
          obtain ⟨i0, hi, _, hz1, _⟩ := info_parts info3d
          have I1 := Lib.hid hi; have I3 := Lib.hid hz1
          clear hf hok hi2 hi hz1
          gi_wp2_with (first
            | (refine ⟨trivial, (fun h => by cases h), ?_⟩; gi_at_call 66; refine (callsIn_wide.2 HF.out).mono ?_; rintro e w1 ⟨rfl, hb1⟩; have HB1 := Lib.hid hb1; clear hb1)
            | (gi_at_builtin; refine wpListIn_append_spare _ (by rfl) (.tmp 28) (.tmp 30) 26 (by rfl) 0 3 i0 1 Try.underlying26 I1.out I3.out g pre.length n (pre.map (Value.int .i64)) (by rfl) (World.ownsRow.alloc (HRK.out.same (HB1.out.block _ HRK.out.lt)) _) ⟨w1.heap.size, 0, none⟩ 1 1 [.int .i64 k] (by rfl) rfl (World.news_of_block (cs := #[.int .i64 k]) (t := 3) (fr := (0, 0)) (heap_alloc_new w1 _)) (by simp [Value.oneCell']) (by omega) ?_; intro w2 hown hgr; have HOW := Lib.hid hown; have HGR := Lib.hid hgr; clear hown hgr)
            | (refine ⟨trivial, (fun h => by cases h), ?_⟩; gi_at_call 92; refine (HI2.out _ (by have := HOW.out; simpa [RowG] using this) (hJ _ _ _ HJK.out (row_below (B := B) HB1.out HGR.out HRK.out.lt hg))).mono ?_; clear HI2; rintro e w3 (⟨rfl, hj3, hr3, hz3⟩ | ⟨rfl, q, hq, hx3⟩)))
          · have HJ3 := Lib.hid hj3
            have hsz : W.heap.size ≤ w3.heap.size := by have a1 := HB1.out.size; have a2 := HGR.out.size; simp at a2; omega
            go_roundw
            case rel => exact ⟨k + 1, by go_num, hkm, by rw [HE.out, got_append, ← List.append_assoc]; exact HJ3.out, hr3.init, hsz⟩
            case measure => simp [intOf]; omega
          · go_ret
            refine .inr ⟨rfl, got g n (extTo ascB d many pre k) ++ q, ?_, by rw [← List.append_assoc]; exact hx3⟩
            have h1 : got g n (extTo ascB d many pre k) ++ q <+: got g n (extTo ascB d many pre (k + 1)) := by
              rw [HE.out, got_append]
              obtain ⟨r, hr⟩ := hq
              exact ⟨r, by rw [List.append_assoc, hr]⟩
            exact h1.trans (List.IsPrefix.map _ (extTo_prefix ascB d many pre (by omega)))
      · obtain rfl : k = many := by omega
        gi_wp2
        go_ret
        exact .inl ⟨rfl, HJK.out, HRK.out, hz⟩
end Go.Proofs.Ytmfbfcknnjbabaa
