/- The contracts of numbers, and of what it returns. The contract of worst. The contract of Ask, of a town with a truth. -/
import Derived.Test.YtmfbfcknnjbabaaD3
import Derived.Test.YtmfbfcknnjbabaaB5
import Derived.Test.YtmfbfcknnjbabaaC2
set_option linter.unusedSimpArgs false
set_option linter.unusedVariables false
namespace Go.Proofs.Ytmfbfcknnjbabaa
open Go.RowKit Go.Shelf
attribute [local go_sem] Oper.semAt_some

/-- the numbers from lo on, k of them -/
def nums (lo : Int) (k : Nat) : List Int := (List.range k).map fun i : Nat => lo + (i : Int)
theorem nums_succ (lo : Int) (k : Nat) : nums lo (k + 1) = nums lo k ++ [lo + k] := by simp [nums, List.range_succ]
theorem nums_pre (lo : Int) {k n : Nat} (h : k ≤ n) : nums lo k <+: nums lo n := by
  induction n with
  | zero => obtain rfl : k = 0 := by omega
            exact List.prefix_refl _
  | succ n ih =>
    rcases Nat.lt_or_ge n k with h1 | h1
    · obtain rfl : k = n + 1 := by omega
      exact List.prefix_refl _
    · rw [nums_succ]; exact (ih h1).trans ⟨_, rfl⟩

/-- numbers -/
theorem numbers_ex (lo hi : Int) (w : World) :
    Calls Try.prog 96 #[.agg #[.int .i64 lo, .int .i64 hi]] w fun e w' => e = .returned (.func (.func 103) #[] #[.pointer (some ⟨w.heap.size, 0, none⟩)]) ∧ w.alloc (.cells #[.int .i64 lo, .int .i64 hi] 38) = w' := by
  go_enter Try.func96, Try.ntmps96
  go_wp2
  go_ret
  exact ⟨rfl, rfl⟩

set_option maxRecDepth 100000 in
set_option maxHeartbeats 2000000 in
/-- what the iterator does -/
theorem numbers1_any (m l b : Nat) (lo hi : Int) (N B : Nat) (J Jx : List Int → World → Prop) (W : World) (hlo : -10000000 ≤ lo) (hlo2 : lo ≤ 10000000) (hN : N ≤ 10000000) (hh : lo + N = hi + 1) (hB : B ≤ W.heap.size)
    (hJ : ∀ s A A', J s A → Below B A A' → J s A')
    (hY : ∀ m pre x A, J pre A → lo ≤ x ∧ x ≤ hi → YieldAt Fence.wide m Try.prog l #[.int .i64 x] A fun e A' => (e = .returned (.bool true) ∧ J (pre ++ [x]) A' ∧ Kp B A A') ∨ (e = .returned (.bool false) ∧ Jx (pre ++ [x]) A'))
    (hC : ∀ s A, J s A ∨ Jx s A → A.cell? ⟨b, 0, none⟩ = some (.int .i64 lo) ∧ A.cell? ⟨b, 1, none⟩ = some (.int .i64 hi)) (h0 : J [] W) :
    CallsIn Fence.wide m Try.prog 103 #[.func (.yield l) #[] #[], .pointer (some ⟨b, 0, none⟩)] W fun e A' => (∃ v, e = .returned v) ∧
      ((∃ xs : List Int, xs = nums lo N ∧ J xs A') ∨ (∃ pre : List Int, pre <+: nums lo N ∧ Jx pre A')) := by
  obtain ⟨c0, c1⟩ := hC [] W (.inl h0)
  have H0 := Lib.hid h0; clear h0
  refine callsIn_of_wp Try.func103 rfl trivial ?_ rfl
  simp only [Try.ntmps103, List.size_toArray, List.length_cons, List.length_nil, Nat.reduceAdd, Nat.reduceSub, Array.replicate_succ, Array.replicate_zero, List.push_toArray, List.append_toArray, List.nil_append, List.cons_append]
  gi_wp2
  gi_loopw [3] (fun i wr => ∃ k : Nat, i = .int .i64 (lo + k) ∧ k ≤ N ∧ J (nums lo k) wr) (fun i _ => (hi + 1 - intOf i).toNat)
  case atStart => exact ⟨0, by simp, Nat.zero_le _, by simpa [nums] using H0.out⟩
  case round =>
    obtain ⟨k, rfl, hk, hj⟩ := hrel
    obtain ⟨d0, d1⟩ := hC _ _ (.inl hj)
    by_cases hlt : k < N
    · obtain ⟨fn, tmps, assign, body, hy, hR⟩ := hY (m - 1) _ (lo + k) wr hj ⟨by omega, by omega⟩
      have hle : lo + k ≤ hi := by omega
      have HRR := Lib.hid hR; have HC := Lib.hid hC; have HY := Lib.hid hY
      clear hR hC hY hj c0 c1
      gi_wp2
      refine ⟨(fun h => by cases h), ?_⟩
      refine HRR.out.mono ?_
      rintro e W' (⟨rfl, hj2, hk2⟩ | ⟨rfl, hx2⟩)
      · have HJ2 := Lib.hid hj2; clear hj2 hk2
        gi_wp2
        go_roundw
        case rel => exact ⟨k + 1, by go_num, hlt, by rw [nums_succ]; exact HJ2.out⟩
        case measure => simp [intOf]; go_num
      · have HX2 := Lib.hid hx2; clear hx2
        gi_wp2
        refine bodyPost_ret (results_none rfl _ _ _) rfl ?_
        exact ⟨⟨_, rfl⟩, .inr ⟨_, by rw [← nums_succ]; exact nums_pre lo hlt, HX2.out⟩⟩
    · obtain rfl : k = N := by omega
      have HJK := Lib.hid hj
      have hle : ¬ (lo + (k : Int) ≤ hi) := by omega
      clear hC hY hj c0 c1
      gi_wp2
      go_end0
      exact ⟨⟨_, rfl⟩, .inl HJK.out⟩
end Go.Proofs.Ytmfbfcknnjbabaa

namespace Go.Proofs.Ytmfbfcknnjbabaa
open Go.RowKit Go.Shelf
attribute [local go_sem] Oper.semAt_some

section
variable {F : Fence} {n : Nat} {ops : Array Oper} {rest : List Oper} {o : Oper} {a : Act} {w : World} {Q : Exit → Act → World → Prop}
theorem wpListIn_of_run (hgd : o.guard = none) (hab : o.about Try.prog w a.eval = none) (hc : ∀ c, o.op ≠ .defer c) (v : Value) (w' : World)
    (hrun : (execOp a.eval o).run Try.prog w = .ok (.value v) w') (h : wpListIn F n Try.prog ops Q rest (a.put o.dst v) w') : wpListIn F n Try.prog ops Q (o :: rest) a w := by
  refine wpListIn_plain hgd fun K hK => ?_
  unfold Oper.wpIn
  refine ⟨by simp [hab], ?_⟩
  rw [Oper.semAt_plain F _ _ hc, hrun]
  exact hK _ _ h
theorem wpListIn_of_skip (hgd : o.guard = none) (hab : o.about Try.prog w a.eval = none) (hc : ∀ c, o.op ≠ .defer c) (w' : World)
    (hrun : (execOp a.eval o).run Try.prog w = .ok .skip w') (h : wpListIn F n Try.prog ops Q rest (a.put o.dst undef) w') : wpListIn F n Try.prog ops Q (o :: rest) a w := by
  refine wpListIn_plain hgd fun K hK => ?_
  unfold Oper.wpIn
  refine ⟨by simp [hab], ?_⟩
  rw [Oper.semAt_plain F _ _ hc, hrun]
  exact hK _ _ h
theorem wpListIn_load_kv (hgd : o.guard = none) (x : Operand) (ho : o.op = .load 76 x) (g : Nat) (n' : Int) (M : List Int) (hx : a.eval x = .pointer (some ⟨g, 0, none⟩)) (hr : RowAt w g n' M)
    (h : wpListIn F n Try.prog ops Q rest (a.put o.dst (.agg (kv n' M))) w) : wpListIn F n Try.prog ops Q (o :: rest) a w := by
  obtain ⟨fs, hu⟩ := und76
  refine wpListIn_of_run hgd (by simp [Oper.about, ho]) (by rw [ho]; intro c hc; cases hc) _ _ ?_ h
  unfold execOp
  simp only [ho, hx, Instr.loadAt, Instr.sureAddr, Sem.run_bind, Sem.run_pure, Result.andThen_ok, run_loadVar_row w g 76 76 (kv n' M) (0, 0) _ hr.row hu rfl (by rw [info76, kv_size, hr.len])]
theorem wpListIn_alloc_kv (hgd : o.guard = none) (ho : o.op = .alloc 76)
    (h : ∀ w', RowAt w' w.heap.size 0 Z49 → Below w.heap.size w w' → w'.heap.size = w.heap.size + 1 → wpListIn F n Try.prog ops Q rest (a.put o.dst (.pointer (some ⟨w.heap.size, 0, none⟩))) w') : wpListIn F n Try.prog ops Q (o :: rest) a w := by
  have hz := zero76
  cases hi : Try.prog.info? 76 with
  | none => simp [hi] at hz
  | some i =>
    have hz' : i.zero = some (.agg (kv 0 Z49)) := by simpa [hi] using hz
    have hrun : (Instr.alloc 76 true (.tuple #[])).run Try.prog w = .ok (.pointer (some ⟨w.heap.size, 0, none⟩)) (w.alloc (.cells (kv 0 Z49) 76)) := by
      simp [Instr.alloc, zeroValue, typeInfo, hi, hz', newVar, newRow, Value.cells, Sem.run_bind]
    refine wpListIn_of_run hgd (by simp [Oper.about, ho]) (by rw [ho]; intro c hc; cases hc) _ _ ?_ (h _ ⟨heap_alloc_new w _, rfl⟩ (bA (Below.refl _ _) _) (by simp))
    unfold execOp
    simp only [ho, Sem.run_bind, hrun, Result.andThen_ok, Sem.run_pure]
theorem wpListIn_store_kv (hgd : o.guard = none) (x y : Operand) (ho : o.op = .store 76 x y) (g : Nat) (n0 n1 : Int) (M M' : List Int) (hx : a.eval x = .pointer (some ⟨g, 0, none⟩)) (hy : a.eval y = .agg (kv n0 M)) (hl : M.length = 49)
    (hr : RowAt w g n1 M') (h : ∀ w', RowAt w' g n0 M → Only w w' g → wpListIn F n Try.prog ops Q rest (a.put o.dst undef) w') : wpListIn F n Try.prog ops Q (o :: rest) a w := by
  refine wpListIn_of_skip hgd (by simp [Oper.about, ho]) (by rw [ho]; intro c hc; cases hc) _ ?_ (h (w.setRow g (kv n0 M)) ⟨?_, hl⟩ ⟨?_, ?_⟩)
  · unfold execOp
    simp only [ho, hx, hy, Instr.storeAt, Instr.sureAddr, Sem.run_bind, Sem.run_pure, Result.andThen_ok, run_storeVar_row w g 76 76 (kv n1 M') (kv n0 M) hr.row (by rw [info76, kv_size, hl]) (by rw [kv_size, kv_size, hl, hr.len]) (by simp [kv, Value.oneCell'])]
  · have := hr.row
    simp [World.setRow, Array.getElem?_modify, this]
  · refine ⟨rfl, rfl, rfl, by simp [World.setRow], fun k hk hne => ?_⟩
    simp only [World.setRow, Array.getElem?_modify]
    rw [if_neg (fun e => hne (by rw [e]))]
  · simp [World.setRow]
end

/-- how wide the town stays at the worst of these levels -/
def wst (M : List Int) (n q : Nat) (xs : List Int) : Int := xs.foldl (fun s x => max s (wd (addW M 0 (q + 1) x x).2 n)) 0
theorem wst_snoc (M : List Int) (n q : Nat) (xs : List Int) (x : Int) : wst M n q (xs ++ [x]) = max (wst M n q xs) (wd (addW M 0 (q + 1) x x).2 n) := by simp [wst]

theorem Kp.set_at {B : Nat} (W : World) (b : Nat) (v : Value) (h : b < B) : Kp B W (W.setCell ⟨b, 0, none⟩ v) :=
  have k := grownBy_setCell' W b v
  ⟨k.size, fun i hi hl => k.block i hl (by simp; omega)⟩
theorem row_only {A B C : World} (h : Below A.heap.size A B) (k : Only B C A.heap.size) : Below A.heap.size A C :=
  ⟨k.grown.os.trans h.os, k.grown.tape.trans h.tape, k.grown.output.trans h.output, by rw [k.size]; exact h.size, fun i hi => (k.grown.block i (by have := h.size; omega) (by simp; omega)).trans (h.block i hi)⟩
theorem row_grown {A B C : World} (h : Below A.heap.size A B) (k : B.grownBy C (some A.heap.size)) : Below A.heap.size A C :=
  ⟨k.os.trans h.os, k.tape.trans h.tape, k.output.trans h.output, Nat.le_trans h.size k.size, fun i hi => (k.block i (by have := h.size; omega) (by simp; omega)).trans (h.block i hi)⟩
/-- what stands while worst goes on -/
structure WI (w : World) (g : Nat) (q : Nat) (s : Int) (W : World) : Prop where
  b2 : Boxed W w.heap.size 108 (.pointer (some ⟨g, 0, none⟩))
  b3 : Boxed W (w.heap.size + 1) 3 (.int .i64 q)
  b5 : Boxed W (w.heap.size + 1 + 1) 3 (.int .i64 s)
  bel : Below w.heap.size w W
  sz : w.heap.size + 3 ≤ W.heap.size
theorem WI.below {w : World} {g q : Nat} {s : Int} {A A' : World} {B : Nat} (h : WI w g q s A) (k : Below B A A') (hb : w.heap.size + 3 ≤ B) : WI w g q s A' :=
  ⟨(k.block _ (by omega)).trans h.b2, (k.block _ (by omega)).trans h.b3, (k.block _ (by omega)).trans h.b5, h.bel.trans (k.mono (by omega)), Nat.le_trans h.sz k.size⟩

theorem WI.set {w : World} {g q : Nat} {s : Int} {A : World} (h : WI w g q s A) (s' : Int) : WI w g q s' (A.setCell ⟨w.heap.size + 1 + 1, 0, none⟩ (.int .i64 s')) :=
  have k := grownBy_setCell' A (w.heap.size + 1 + 1) (.int .i64 s')
  ⟨h.b2.kept k (by simp; omega), h.b3.kept k (by simp), h.b5.set _, h.bel.trans ⟨k.os, k.tape, k.output, k.size, fun i hi => k.block i (by have := h.sz; omega) (by simp; omega)⟩, Nat.le_trans h.sz k.size⟩
set_option maxRecDepth 100000 in
set_option maxHeartbeats 2000000 in
theorem worst_any (n q : Nat) (M : List Int) (g : Nat) (w : World) (hn : n ≤ 6) (hq : q < 6) (hr : RowAt w g n M) (lo hi : Int) (N : Nat) (hd : dif M 0 (q + 1) = (lo, hi)) (hlo : -10000000 ≤ lo) (hlo2 : lo ≤ 10000000) (hN : N ≤ 10000000) (hh : lo + N = hi + 1) :
    CallsIn Fence.wide 9 Try.prog 79 #[.pointer (some ⟨g, 0, none⟩), .int .i64 q] w fun e w' => e = .returned (.int .i64 (wst M n q (nums lo N))) ∧ Below w.heap.size w w' := by
  have hlv : ∀ W, Below w.heap.size w W → CallsIn Fence.wide 8 Try.prog 59 #[.pointer (some ⟨g, 0, none⟩), .int .i64 q] W fun e w' => e = .returned (.agg #[.int .i64 lo, .int .i64 hi]) ∧ Below W.heap.size W w' := fun W hW => by
    have := level_any n M g q W hq (hr.below hW hr.lt)
    rw [hd] at this
    exact callsIn_wide.2 this
  have HLV := Lib.hid hlv; have HR := Lib.hid hr
  have hgl := hr.lt
  clear hlv hr hd
  refine callsIn_of_wp_marks Try.func79 rfl trivial ?_ rfl
  simp only [Try.ntmps79, List.size_toArray, List.length_cons, List.length_nil, Nat.reduceAdd, Nat.reduceSub, Array.replicate_succ, Array.replicate_zero, List.push_toArray, List.append_toArray, List.nil_append, List.cons_append]
  gi_wp2_with (first
    | (refine ⟨trivial, ?_⟩; gi_at_call 59; refine (HLV.out _ (bA (bA (bA (Below.refl _ _) _) _) _)).mono ?_; rintro e w1 ⟨rfl, hb1⟩; have HB1 := Lib.hid hb1; clear hb1)
    | (refine ⟨trivial, ?_⟩; gi_at_call 96; refine (callsIn_wide.2 (numbers_ex _ _ _)).mono ?_; rintro e w2 ⟨rfl, hw2⟩; have HW2 := Lib.hid hw2; clear hw2))
  have hW := HW2.out
  have hb1 := HB1.out
  have hsz1 := hb1.size
  simp only [World.size_alloc] at hsz1
  have hwi : WI w g q 0 w1 := WI.below (A := ((w.alloc (.cells #[.pointer (some ⟨g, 0, none⟩)] 108)).alloc (.cells #[.int .i64 q] 3)).alloc (.cells #[.int .i64 0] 3))
    ⟨((Boxed.new w 108 _).alloc _).alloc _, by have := (Boxed.new (w.alloc (.cells #[.pointer (some ⟨g, 0, none⟩)] 108)) 3 (.int .i64 q)).alloc (.cells #[.int .i64 0] 3); simpa using this,
      by have := Boxed.new ((w.alloc (.cells #[.pointer (some ⟨g, 0, none⟩)] 108)).alloc (.cells #[.int .i64 q] 3)) 3 (.int .i64 0); simpa using this, bA (bA (bA (Below.refl _ _) _) _) _, by simp⟩ hb1 (by simp)
  have hwi2 : WI w g q 0 w2 := hW ▸ hwi.below (bA (Below.refl _ _) _) hwi.sz
  have d0 : w2.cell? ⟨w1.heap.size, 0, none⟩ = some (.int .i64 lo) := by rw [← hW, cell_of_row _ w1.heap.size 0 _ _ _ (heap_alloc_new w1 _)]; rfl
  have d1 : w2.cell? ⟨w1.heap.size, 1, none⟩ = some (.int .i64 hi) := by rw [← hW, cell_of_row _ w1.heap.size 1 _ _ _ (heap_alloc_new w1 _)]; rfl
  have hs2 : w2.heap.size = w1.heap.size + 1 := by rw [← hW]; simp
  clear hW HW2
  refine rangeF rfl (by omega) (gf := 103) (lb := #[.pointer (some ⟨w1.heap.size, 0, none⟩)]) rfl trivial (enters_of Try.func103 (by kernel_rfl) rfl)
    (encs := fun x : Int => #[Value.int .i64 x]) (fun x _ => lo ≤ x ∧ x ≤ hi) (fun xs W => WI w g q (wst M n q xs) W) (fun _ _ _ => False) (fun xs => xs = nums lo N) (fun pre => pre <+: nums lo N) (w.heap.size + 3) (by omega)
    (fun _ => rfl) (fun s A B h k => h.below k (by omega)) (fun _ _ _ _ _ h _ => h) (by simpa [wst] using hwi2) ?seq ?round ?done ?stop
  case seq =>
    intro l J Jx W hl1 hl2 hB hJ hJb hJxb hY h0
    refine numbers1_any _ l w1.heap.size lo hi N W.heap.size J Jx W hlo hlo2 hN hh (Nat.le_refl _) hJ (fun m pre x A hj hp => yieldAny rfl m (hY pre x A hj hp)) ?_ h0
    rintro s A (h | h)
    · have e := hJb _ _ h w1.heap.size (by omega) (by omega)
      exact ⟨(World.cell?_of_block e).trans d0, (World.cell?_of_block e).trans d1⟩
    · have e := hJxb _ _ h w1.heap.size (by omega) (by omega)
      exact ⟨(World.cell?_of_block e).trans d0, (World.cell?_of_block e).trans d1⟩
  case round =>
    rintro l pre x W hl hr hI ⟨hx1, hx2⟩
    gi_wp2
    refine ⟨Below.refl _ _, fun W₂ hg2 hs2' hI2 => ?_⟩
    have H2 := hI2
    have tok1 : True := trivial
    have cb2 := hI2.b2.cell
    have cb3 := hI2.b3.cell
    have hR2 := HR.out.below hI2.bel hgl
    have HR2 := Lib.hid hR2
    have HS2 := Lib.hid hs2'; have HI2 := Lib.hid H2
    clear hI hr hg2 hR2 hI2 hs2' H2
    gi_wp2_with (first
      | (refine wpListIn_load_kv rfl _ rfl g n M rfl HR2.out ?_)
      | (refine wpListIn_alloc_kv rfl rfl ?_; intro w3 hr3 hb3 hz3; have HR3 := Lib.hid hr3; have HB3 := Lib.hid hb3; clear hr3 hb3)
      | (refine wpListIn_store_kv rfl _ _ rfl _ n 0 M Z49 rfl rfl HR2.out.len HR3.out ?_; intro w4 hr4 ho4; have hb4 := row_only HB3.out ho4; have HI4 := Lib.hid (HI2.out.below hb4 HI2.out.sz); have cd3 := HI4.out.b3.cell; have HR4 := Lib.hid hr4; have HB4 := Lib.hid hb4; clear hr4 ho4 hb4 tok1)
      | (refine ⟨trivial, ?_⟩; gi_at_call 63; refine (CallsIn.inRound l (callsIn_wide.2 (point_ex _ _ (by omega) (by omega)))).mono ?_; rintro e w5 ⟨rfl, rfl⟩)
      | (refine ⟨trivial, ?_⟩; gi_at_call 95; refine (CallsIn.inRound l (callsIn_wide.2 (add_any n M W₂.heap.size 0 (q + 1) x x _ (by omega) (by omega) HR4.out))).mono ?_; rintro e w6 ⟨rfl, hr6, hg6⟩; have HR6 := Lib.hid hr6; have HG6 := Lib.hid hg6; clear hr6 hg6))
    have hmx : Try.prog.follows .mixedOrders = true := by kernel_rfl
    have h6 : Below W₂.heap.size W₂ w6 := row_grown HB4.out HG6.out
    have hi6 := HI2.out.below h6 HI2.out.sz
    have HI6 := Lib.hid hi6; have H6 := Lib.hid h6
    have e5 := hi6.b5.cell
    have f5 := hi6.b5.frozen
    obtain ⟨s0, hs0⟩ : ∃ s, wst M n q pre = s := ⟨_, rfl⟩
    obtain ⟨v0, hv0⟩ : ∃ v, wd (addW M 0 (q + 1) x x).2 n = v := ⟨_, rfl⟩
    rw [hs0] at e5
    have hcw : ∀ m, CallsIn (Fence.wide.inRound l) m Try.prog 78 #[.pointer (some ⟨W₂.heap.size, 0, none⟩)] w6.drew fun e w' => e = .returned (.int .i64 v0) ∧ Below w6.heap.size w6 w' := fun m => by
      rw [← hv0]
      refine (CallsIn.inRound l (callsIn_wide.2 (width_any n (addW M 0 (q + 1) x x).2 W₂.heap.size w6.drew hn ⟨HR6.out.row, HR6.out.len⟩))).mono ?_
      rintro e w' ⟨rfl, hb⟩
      exact ⟨rfl, ⟨hb.os, hb.tape, hb.output, hb.size, hb.block⟩⟩
    have HCW := Lib.hid hcw; have HS0 := Lib.hid hs0; have HV0 := Lib.hid hv0
    clear hcw hs0 hv0 hi6 h6 cb2 cb3
    gi_region_with_o (refine ⟨trivial, ?_⟩; gi_at_call 78; refine (HCW.out _).mono ?_; rintro e w7 ⟨rfl, hb7⟩; have HI7 := Lib.hid (HI6.out.below hb7 HI6.out.sz); have HB7 := Lib.hid hb7; have e7 := HI7.out.b5.cell; have f7 := HI7.out.b5.frozen; rw [HS0.out] at e7; clear hb7)
    all_goals gi_wp2
    all_goals
      have hk := (Kp.of_below (B := w.heap.size + 3) H6.out).trans ((Kp.of_below HB7.out).trans (Kp.set_at w7 (w.heap.size + 1 + 1) (.int .i64 (max s0 v0)) (Nat.lt_succ_self _)))
      have hw := HI7.out.set (max s0 v0)
      rw [← HS0.out, ← HV0.out, ← wst_snoc] at hw
      rw [← HS0.out, ← HV0.out, ← wst_snoc] at hk
      have hm := wst_snoc M n q pre x
      rw [HS0.out, HV0.out] at hm
      first
        | (have e : wst M n q (pre ++ [x]) = v0 := by rw [hm]; omega
           rw [e] at hk
           refine ⟨hk, ?_⟩
           show WI w g q (wst M n q (pre ++ [x])) _
           rw [e] at hw ⊢
           exact hw)
        | (have e : wst M n q (pre ++ [x]) = s0 := by rw [hm]; omega
           rw [e] at hk
           refine ⟨hk, ?_⟩
           show WI w g q (wst M n q (pre ++ [x])) _
           rw [e] at hw ⊢
           exact hw)
  case done =>
    rintro D xs W hD rfl hI hK
    have c5 := hI.b5.cell
    gi_wp2
    refine ⟨by simp, .inl ⟨_, _, rfl, run_takeDeferred hK, ?_⟩⟩
    exact ⟨_, results_tmp rfl _ _ _, rfl, hI.bel.trans (below_putObj W _ (by have := hs2; omega))⟩
  case stop =>
    rintro D c pre W _ _ h _
    exact h.elim
end Go.Proofs.Ytmfbfcknnjbabaa

namespace Go.Proofs.Ytmfbfcknnjbabaa
open Go.RowKit Go.Shelf

def ww (M : List Int) (n q : Nat) : Int := wst M n q (nums (dif M 0 (q + 1)).1 ((dif M 0 (q + 1)).2 - (dif M 0 (q + 1)).1 + 1).toNat)
def askSt (M : List Int) (n : Nat) : Nat → Int × Int
  | 0 => (0, ww M n 0)
  | k + 1 => if ww M n k < (askSt M n k).2 then ((k : Int), ww M n k) else askSt M n k
/-- the spans of the levels are no more than this, and not empty -/
def Fine (M : List Int) (n : Nat) : Prop := ∀ q, q < n → -10000000 ≤ (dif M 0 (q + 1)).1 ∧ (dif M 0 (q + 1)).1 ≤ 10000000 ∧ (dif M 0 (q + 1)).1 ≤ (dif M 0 (q + 1)).2 ∧ (dif M 0 (q + 1)).2 - (dif M 0 (q + 1)).1 + 1 ≤ 10000000

theorem worst_ok (n q : Nat) (M : List Int) (g : Nat) (w : World) (hn : n ≤ 6) (hq : q < n) (hr : RowAt w g n M) (hf : Fine M n) :
    Calls Try.prog 79 #[.pointer (some ⟨g, 0, none⟩), .int .i64 q] w fun e w' => e = .returned (.int .i64 (ww M n q)) ∧ Below w.heap.size w w' := by
  obtain ⟨a1, a2, a3, a4⟩ := hf q hq
  unfold ww
  obtain ⟨⟨lo, hi⟩, hd⟩ : ∃ x, dif M 0 (q + 1) = x := ⟨_, rfl⟩
  rw [hd] at a1 a2 a3 a4 ⊢
  dsimp only at a1 a2 a3 a4 ⊢
  exact callsIn_wide.1 (worst_any n q M g w hn (by omega) hr lo hi _ hd a1 a2 (by omega) (by omega))

set_option maxRecDepth 100000 in
set_option maxHeartbeats 2000000 in
theorem ask_ok (T : Town) (M : List Int) (n : Nat) (p q : Option Addr) (c d : Nat) (w : World) (hok : T.ok = true) (hk : kn T = some M) (hn : T.W = n) (hf : Fine M n) (ht : TownIn w w.heap.size T p q) :
    Calls Try.prog 41 #[.agg #[.int .i64 T.W, .slice p T.s.length c, .slice q T.r.length d]] w fun e w' =>
      e = .returned (if wd M n = 0 then .tuple #[.int .i64 0, .int .i64 3] else .tuple #[.int .i64 (askSt M n n).1, .int .i64 0]) ∧ Below w.heap.size w w' := by
  rw [hn]
  obtain ⟨w1, hw1, hb1, hz1, k0, k1, k2⟩ := box_town w (n : Int) p q T.s.length T.r.length c d
  have hl1 : w.heap.size < w1.heap.size := by omega
  have hM : M.length = 49 := hTo_len hk
  have hW := ok_W hok
  have hn6 : n ≤ 6 := by omega
  have hlearn := learn_nil T M p q c d w1 hok hk ((ht.below hb1).mono hb1.size)
  rw [hn] at hlearn
  obtain ⟨y, hy⟩ : ∃ y, wd M n = y := ⟨_, rfl⟩
  obtain ⟨z, hz⟩ : ∃ y, ww M n 0 = y := ⟨_, rfl⟩
  have hwid : ∀ W g, RowAt W g n M → Calls Try.prog 78 #[.pointer (some ⟨g, 0, none⟩)] W fun e w' => e = .returned (.int .i64 y) ∧ Below W.heap.size W w' := fun W g hr => hy ▸ width_any n M g W hn6 hr
  have hwor : ∀ k W g, RowAt W g n M → k < n → Calls Try.prog 79 #[.pointer (some ⟨g, 0, none⟩), .int .i64 (k : Nat)] W fun e w' => e = .returned (.int .i64 (ww M n k)) ∧ Below W.heap.size W w' := fun k W g hr hk => worst_ok n k M g W hn6 hk hr hf
  have HL := Lib.hid hlearn; have HWI := Lib.hid hwid; have HWO := Lib.hid hwor; have HB1 := Lib.hid hb1; have HN := Lib.hid hn
  rw [hy]
  have HZ := Lib.hid hz
  clear hlearn hwid hb1 hz1 ht hok hk hf
  by_cases h0 : y = 0
  · have hb0 : (y == 0) = true := by simp [h0]
    rw [if_pos h0]
    clear hwor hy hz hn
    go_enter Try.func41, Try.ntmps41
    go_wp2_with (first
      | (go_at_call 58; refine HL.out.mono ?_; rintro e w2 ⟨rfl, hb2⟩; have HB2 := Lib.hid hb2; clear hb2)
      | (refine wpList_alloc_kv rfl rfl ?_; intro w3 hr3 hb3 hz3; have HR3 := Lib.hid hr3; have HB3 := Lib.hid hb3; have HZ3 := Lib.hid hz3; clear hr3 hb3 hz3)
      | (refine wpList_store_kv rfl _ _ rfl _ n 0 M Z49 rfl rfl hM HR3.out ?_; intro w4 hr4 ho4; have HR4 := Lib.hid hr4; have HB4 := Lib.hid (only_below HB3.out ho4 (Nat.le_refl _)); clear hr4 ho4)
      | (go_at_call 78; refine (HWI.out _ _ HR4.out).mono ?_; rintro e w5 ⟨rfl, hb5⟩; have HB5 := Lib.hid (bT (bT HB2.out HB4.out) hb5); clear hb5))
    go_ret2
    exact ⟨rfl, bT HB1.out HB5.out⟩
  · have hb0 : (y == 0) = false := by simp [h0]
    rw [if_neg h0]
    have hn1 : 0 < n := by
      rcases Nat.eq_zero_or_pos n with h | h
      · subst h; exact absurd hy.symm (by simpa [wd] using h0)
      · exact h
    have hwor0 : ∀ W g, RowAt W g n M → Calls Try.prog 79 #[.pointer (some ⟨g, 0, none⟩), .int .i64 0] W fun e w' => e = .returned (.int .i64 z) ∧ Below W.heap.size W w' := fun W g hr => hz ▸ hwor 0 W g hr hn1
    have HW0 := Lib.hid hwor0
    clear hwor hwor0 hy hz hn
    go_enter Try.func41, Try.ntmps41
    go_wp2_with (first
      | (go_at_call 58; refine HL.out.mono ?_; rintro e w2 ⟨rfl, hb2⟩; have HB2 := Lib.hid hb2; clear hb2)
      | (refine wpList_alloc_kv rfl rfl ?_; intro w3 hr3 hb3 hz3; have HR3 := Lib.hid hr3; have HB3 := Lib.hid hb3; have HZ3 := Lib.hid hz3; clear hr3 hb3 hz3)
      | (refine wpList_store_kv rfl _ _ rfl _ n 0 M Z49 rfl rfl hM HR3.out ?_; intro w4 hr4 ho4; have HR4 := Lib.hid hr4; have HB4 := Lib.hid (only_below HB3.out ho4 (Nat.le_refl _)); clear hr4 ho4)
      | (go_at_call 78; refine (HWI.out _ _ HR4.out).mono ?_; rintro e w5 ⟨rfl, hb5⟩; have HR5 := Lib.hid (HR4.out.below hb5 HR4.out.lt); have HB5 := Lib.hid (bT (bT HB2.out HB4.out) hb5); clear hb5)
      | (go_at_call 79; refine (HW0.out _ _ HR5.out).mono ?_; rintro e w6 ⟨rfl, hb6⟩; have HR6 := Lib.hid (HR5.out.below hb6 HR5.out.lt); have HB6 := Lib.hid (bT HB5.out hb6); have k6 := (HB6.out.cell (p := ⟨w.heap.size, 0, none⟩) hl1).trans k0; clear hb6))
    go_loopw [6, 7, 23] (fun b l i wr => ∃ k : Nat, i = .int .i64 k ∧ k ≤ n ∧ b = .int .i64 (askSt M n k).1 ∧ l = .int .i64 (askSt M n k).2 ∧ Below w6.heap.size w6 wr) (fun _ _ i _ => n - (intOf i).toNat)
    case atStart => exact ⟨0, rfl, Nat.zero_le _, rfl, by simp only [askSt]; rw [HZ.out], Below.refl _ _⟩
    case round =>
      obtain ⟨k, rfl, hk, rfl, rfl, hb⟩ := hrel
      have HB := Lib.hid hb; clear hb
      by_cases hlt : k < n
      · have HR7 := Lib.hid (HR6.out.below HB.out HR6.out.lt)
        have hcall := HWO.out k wr _ HR7.out hlt
        obtain ⟨v, hv⟩ : ∃ v, ww M n k = v := ⟨_, rfl⟩
        rw [hv] at hcall
        have HE : Hid (askSt M n (k + 1) = if v < (askSt M n k).2 then ((k : Int), v) else askSt M n k) := by show _ = _; simp only [askSt]; rw [hv]
        obtain ⟨⟨s1, s2⟩, hs⟩ : ∃ s, askSt M n k = s := ⟨_, rfl⟩
        rw [hs] at HE ⊢
        dsimp only at HE ⊢
        have HCL := Lib.hid hcall
        clear hcall hv hs
        by_cases hlt2 : v < s2
        · have HE2 : Hid (askSt M n (k + 1) = ((k : Int), v)) := by show _ = _; rw [HE.out, if_pos hlt2]
          go_wp2_with (go_at_call 79; refine HCL.out.mono ?_; rintro e w8 ⟨rfl, hb8⟩; have HB8 := Lib.hid hb8; clear hb8)
          go_roundw
          case rel => exact ⟨k + 1, by go_num, hlt, by rw [HE2.out], by rw [HE2.out], bT HB.out HB8.out⟩
          case measure => simp [intOf]; omega
        · have HE2 : Hid (askSt M n (k + 1) = (s1, s2)) := by show _ = _; rw [HE.out, if_neg hlt2]
          go_wp2_with (go_at_call 79; refine HCL.out.mono ?_; rintro e w8 ⟨rfl, hb8⟩; have HB8 := Lib.hid hb8; clear hb8)
          go_roundw
          case rel => exact ⟨k + 1, by go_num, hlt, by rw [HE2.out], by rw [HE2.out], bT HB.out HB8.out⟩
          case measure => simp [intOf]; omega
      · obtain rfl : k = n := by omega
        go_wp2
        go_ret2
        exact ⟨rfl, bT (bT HB1.out HB6.out) HB.out⟩
end Go.Proofs.Ytmfbfcknnjbabaa
