/- The contract of worst. -/
import Derived.Test.YtmfbfcknnjbabaaF1
import Derived.Test.YtmfbfcknnjbabaaB5
set_option linter.unusedSimpArgs false
set_option linter.unusedVariables false
namespace Go.Proofs.Ytmfbfcknnjbabaa
open Go.RowKit Go.Shelf
attribute [local go_sem] Oper.semAt_some

section
variable {F : Fence} {n : Nat} {ops : Array Oper} {rest : List Oper} {o : Oper} {a : Act} {w : World} {Q : Exit → Act → World → Prop}
theorem wpListIn_of_run (hgd : o.guard = none) (hab : o.about Try.prog w a.eval = none) (hc : ∀ c, o.op ≠ .defer c) (v : Value) (w' : World)
    (hrun : (execOp a.eval o).run Try.prog w = .ok (.value v) w') (h : wpListIn F n Try.prog ops Q rest (a.put o.dst v) w') : wpListIn F n Try.prog ops Q (o :: rest) a w := by
  refine wpListIn_plain hgd fun K hK => ?_
  unfold Oper.wpIn
  refine ⟨by simp [hab], ?_⟩
  rw [Oper.semAt_plain F _ _ hc, hrun]
  exact hK _ _ h
theorem wpListIn_of_skip (hgd : o.guard = none) (hab : o.about Try.prog w a.eval = none) (hc : ∀ c, o.op ≠ .defer c) (w' : World)
    (hrun : (execOp a.eval o).run Try.prog w = .ok .skip w') (h : wpListIn F n Try.prog ops Q rest (a.put o.dst undef) w') : wpListIn F n Try.prog ops Q (o :: rest) a w := by
  refine wpListIn_plain hgd fun K hK => ?_
  unfold Oper.wpIn
  refine ⟨by simp [hab], ?_⟩
  rw [Oper.semAt_plain F _ _ hc, hrun]
  exact hK _ _ h
theorem wpListIn_load_kv (hgd : o.guard = none) (x : Operand) (ho : o.op = .load 76 x) (g : Nat) (n' : Int) (M : List Int) (hx : a.eval x = .pointer (some ⟨g, 0, none⟩)) (hr : RowAt w g n' M)
    (h : wpListIn F n Try.prog ops Q rest (a.put o.dst (.agg (kv n' M))) w) : wpListIn F n Try.prog ops Q (o :: rest) a w := by
  obtain ⟨fs, hu⟩ := und76
  refine wpListIn_of_run hgd (by simp [Oper.about, ho]) (by rw [ho]; intro c hc; cases hc) _ _ ?_ h
  unfold execOp
  simp only [ho, hx, Instr.loadAt, Instr.sureAddr, Sem.run_bind, Sem.run_pure, Result.andThen_ok, run_loadVar_row w g 76 76 (kv n' M) (0, 0) _ hr.row hu rfl (by rw [info76, kv_size, hr.len])]
theorem wpListIn_alloc_kv (hgd : o.guard = none) (ho : o.op = .alloc 76)
    (h : ∀ w', RowAt w' w.heap.size 0 Z49 → Below w.heap.size w w' → w'.heap.size = w.heap.size + 1 → wpListIn F n Try.prog ops Q rest (a.put o.dst (.pointer (some ⟨w.heap.size, 0, none⟩))) w') : wpListIn F n Try.prog ops Q (o :: rest) a w := by
  have hz := zero76
  cases hi : Try.prog.info? 76 with
  | none => simp [hi] at hz
  | some i =>
    have hz' : i.zero = some (.agg (kv 0 Z49)) := by simpa [hi] using hz
    have hrun : (Instr.alloc 76 true (.tuple #[])).run Try.prog w = .ok (.pointer (some ⟨w.heap.size, 0, none⟩)) (w.alloc (.cells (kv 0 Z49) 76)) := by
      simp [Instr.alloc, zeroValue, typeInfo, hi, hz', newVar, newRow, Value.cells, Sem.run_bind]
    refine wpListIn_of_run hgd (by simp [Oper.about, ho]) (by rw [ho]; intro c hc; cases hc) _ _ ?_ (h _ ⟨heap_alloc_new w _, rfl⟩ (bA (Below.refl _ _) _) (by simp))
    unfold execOp
    simp only [ho, Sem.run_bind, hrun, Result.andThen_ok, Sem.run_pure]
theorem wpListIn_store_kv (hgd : o.guard = none) (x y : Operand) (ho : o.op = .store 76 x y) (g : Nat) (n0 n1 : Int) (M M' : List Int) (hx : a.eval x = .pointer (some ⟨g, 0, none⟩)) (hy : a.eval y = .agg (kv n0 M)) (hl : M.length = 49)
    (hr : RowAt w g n1 M') (h : ∀ w', RowAt w' g n0 M → Only w w' g → wpListIn F n Try.prog ops Q rest (a.put o.dst undef) w') : wpListIn F n Try.prog ops Q (o :: rest) a w := by
  refine wpListIn_of_skip hgd (by simp [Oper.about, ho]) (by rw [ho]; intro c hc; cases hc) _ ?_ (h (w.setRow g (kv n0 M)) ⟨?_, hl⟩ ⟨?_, ?_⟩)
  · unfold execOp
    simp only [ho, hx, hy, Instr.storeAt, Instr.sureAddr, Sem.run_bind, Sem.run_pure, Result.andThen_ok, run_storeVar_row w g 76 76 (kv n1 M') (kv n0 M) hr.row (by rw [info76, kv_size, hl]) (by rw [kv_size, kv_size, hl, hr.len]) (by simp [kv, Value.oneCell'])]
  · have := hr.row
    simp [World.setRow, Array.getElem?_modify, this]
  · refine ⟨rfl, rfl, rfl, by simp [World.setRow], fun k hk hne => ?_⟩
    simp only [World.setRow, Array.getElem?_modify]
    rw [if_neg (fun e => hne (by rw [e]))]
  · simp [World.setRow]
end

/-- how wide the town stays at the worst of these levels -/
def wst (M : List Int) (n q : Nat) (xs : List Int) : Int := xs.foldl (fun s x => max s (wd (addW M 0 (q + 1) x x).2 n)) 0
theorem wst_snoc (M : List Int) (n q : Nat) (xs : List Int) (x : Int) : wst M n q (xs ++ [x]) = max (wst M n q xs) (wd (addW M 0 (q + 1) x x).2 n) := by simp [wst]

theorem Kp.set_at {B : Nat} (W : World) (b : Nat) (v : Value) (h : b < B) : Kp B W (W.setCell ⟨b, 0, none⟩ v) :=
  have k := grownBy_setCell' W b v
  ⟨k.size, fun i hi hl => k.block i hl (by simp; omega)⟩
theorem row_only {A B C : World} (h : Below A.heap.size A B) (k : Only B C A.heap.size) : Below A.heap.size A C :=
  ⟨k.grown.os.trans h.os, k.grown.tape.trans h.tape, k.grown.output.trans h.output, by rw [k.size]; exact h.size, fun i hi => (k.grown.block i (by have := h.size; omega) (by simp; omega)).trans (h.block i hi)⟩
theorem row_grown {A B C : World} (h : Below A.heap.size A B) (k : B.grownBy C (some A.heap.size)) : Below A.heap.size A C :=
  ⟨k.os.trans h.os, k.tape.trans h.tape, k.output.trans h.output, Nat.le_trans h.size k.size, fun i hi => (k.block i (by have := h.size; omega) (by simp; omega)).trans (h.block i hi)⟩
/-- what stands while worst goes on -/
structure WI (w : World) (g : Nat) (q : Nat) (s : Int) (W : World) : Prop where
  b2 : Boxed W w.heap.size 108 (.pointer (some ⟨g, 0, none⟩))
  b3 : Boxed W (w.heap.size + 1) 3 (.int .i64 q)
  b5 : Boxed W (w.heap.size + 1 + 1) 3 (.int .i64 s)
  bel : Below w.heap.size w W
  sz : w.heap.size + 3 ≤ W.heap.size
theorem WI.below {w : World} {g q : Nat} {s : Int} {A A' : World} {B : Nat} (h : WI w g q s A) (k : Below B A A') (hb : w.heap.size + 3 ≤ B) : WI w g q s A' :=
  ⟨(k.block _ (by omega)).trans h.b2, (k.block _ (by omega)).trans h.b3, (k.block _ (by omega)).trans h.b5, h.bel.trans (k.mono (by omega)), Nat.le_trans h.sz k.size⟩

theorem WI.set {w : World} {g q : Nat} {s : Int} {A : World} (h : WI w g q s A) (s' : Int) : WI w g q s' (A.setCell ⟨w.heap.size + 1 + 1, 0, none⟩ (.int .i64 s')) :=
  have k := grownBy_setCell' A (w.heap.size + 1 + 1) (.int .i64 s')
  ⟨h.b2.kept k (by simp; omega), h.b3.kept k (by simp), h.b5.set _, h.bel.trans ⟨k.os, k.tape, k.output, k.size, fun i hi => k.block i (by have := h.sz; omega) (by simp; omega)⟩, Nat.le_trans h.sz k.size⟩
set_option maxRecDepth 100000 in
set_option maxHeartbeats 2000000 in
theorem worst_any (n q : Nat) (M : List Int) (g : Nat) (w : World) (hn : n ≤ 6) (hq : q < 6) (hr : RowAt w g n M) (lo hi : Int) (N : Nat) (hd : dif M 0 (q + 1) = (lo, hi)) (hlo : -10000000 ≤ lo) (hlo2 : lo ≤ 10000000) (hN : N ≤ 10000000) (hh : lo + N = hi + 1) :
    CallsIn Fence.wide 9 Try.prog 79 #[.pointer (some ⟨g, 0, none⟩), .int .i64 q] w fun e w' => e = .returned (.int .i64 (wst M n q (nums lo N))) ∧ Below w.heap.size w w' := by
  have hlv : ∀ W, Below w.heap.size w W → CallsIn Fence.wide 8 Try.prog 59 #[.pointer (some ⟨g, 0, none⟩), .int .i64 q] W fun e w' => e = .returned (.agg #[.int .i64 lo, .int .i64 hi]) ∧ Below W.heap.size W w' := fun W hW => by
    have := level_any n M g q W hq (hr.below hW hr.lt)
    rw [hd] at this
    exact callsIn_wide.2 this
  have HLV := Lib.hid hlv; have HR := Lib.hid hr
  have hgl := hr.lt
  clear hlv hr hd
  refine callsIn_of_wp_marks Try.func79 rfl trivial ?_ rfl
  simp only [Try.ntmps79, List.size_toArray, List.length_cons, List.length_nil, Nat.reduceAdd, Nat.reduceSub, Array.replicate_succ, Array.replicate_zero, List.push_toArray, List.append_toArray, List.nil_append, List.cons_append]
  gi_wp2_with (first
    | (refine ⟨trivial, ?_⟩; gi_at_call 59; refine (HLV.out _ (bA (bA (bA (Below.refl _ _) _) _) _)).mono ?_; rintro e w1 ⟨rfl, hb1⟩; have HB1 := Lib.hid hb1; clear hb1)
    | (refine ⟨trivial, ?_⟩; gi_at_call 96; refine (callsIn_wide.2 (numbers_ex _ _ _)).mono ?_; rintro e w2 ⟨rfl, hw2⟩; have HW2 := Lib.hid hw2; clear hw2))
  have hW := HW2.out
  have hb1 := HB1.out
  have hsz1 := hb1.size
  simp only [World.size_alloc] at hsz1
  have hwi : WI w g q 0 w1 := WI.below (A := ((w.alloc (.cells #[.pointer (some ⟨g, 0, none⟩)] 108)).alloc (.cells #[.int .i64 q] 3)).alloc (.cells #[.int .i64 0] 3))
    ⟨((Boxed.new w 108 _).alloc _).alloc _, by have := (Boxed.new (w.alloc (.cells #[.pointer (some ⟨g, 0, none⟩)] 108)) 3 (.int .i64 q)).alloc (.cells #[.int .i64 0] 3); simpa using this,
      by have := Boxed.new ((w.alloc (.cells #[.pointer (some ⟨g, 0, none⟩)] 108)).alloc (.cells #[.int .i64 q] 3)) 3 (.int .i64 0); simpa using this, bA (bA (bA (Below.refl _ _) _) _) _, by simp⟩ hb1 (by simp)
  have hwi2 : WI w g q 0 w2 := hW ▸ hwi.below (bA (Below.refl _ _) _) hwi.sz
  have d0 : w2.cell? ⟨w1.heap.size, 0, none⟩ = some (.int .i64 lo) := by rw [← hW, cell_of_row _ w1.heap.size 0 _ _ _ (heap_alloc_new w1 _)]; rfl
  have d1 : w2.cell? ⟨w1.heap.size, 1, none⟩ = some (.int .i64 hi) := by rw [← hW, cell_of_row _ w1.heap.size 1 _ _ _ (heap_alloc_new w1 _)]; rfl
  have hs2 : w2.heap.size = w1.heap.size + 1 := by rw [← hW]; simp
  clear hW HW2
  refine rangeF rfl (by omega) (gf := 103) (lb := #[.pointer (some ⟨w1.heap.size, 0, none⟩)]) rfl trivial (enters_of Try.func103 (by kernel_rfl) rfl)
    (encs := fun x : Int => #[Value.int .i64 x]) (fun x _ => lo ≤ x ∧ x ≤ hi) (fun xs W => WI w g q (wst M n q xs) W) (fun _ _ _ => False) (fun xs => xs = nums lo N) (fun pre => pre <+: nums lo N) (w.heap.size + 3) (by omega)
    (fun _ => rfl) (fun s A B h k => h.below k (by omega)) (fun _ _ _ _ _ h _ => h) (by simpa [wst] using hwi2) ?seq ?round ?done ?stop
  case seq =>
    intro l J Jx W hl1 hl2 hB hJ hJb hJxb hY h0
    refine numbers1_any _ l w1.heap.size lo hi N W.heap.size J Jx W hlo hlo2 hN hh (Nat.le_refl _) hJ (fun m pre x A hj hp => yieldAny rfl m (hY pre x A hj hp)) ?_ h0
    rintro s A (h | h)
    · have e := hJb _ _ h w1.heap.size (by omega) (by omega)
      exact ⟨(World.cell?_of_block e).trans d0, (World.cell?_of_block e).trans d1⟩
    · have e := hJxb _ _ h w1.heap.size (by omega) (by omega)
      exact ⟨(World.cell?_of_block e).trans d0, (World.cell?_of_block e).trans d1⟩
  case round =>
    rintro l pre x W hl hr hI ⟨hx1, hx2⟩
    gi_wp2
    refine ⟨Below.refl _ _, fun W₂ hg2 hs2' hI2 => ?_⟩
    have H2 := hI2
    have tok1 : True := trivial
    have cb2 := hI2.b2.cell
    have cb3 := hI2.b3.cell
    have hR2 := HR.out.below hI2.bel hgl
    have HR2 := Lib.hid hR2
    have HS2 := Lib.hid hs2'; have HI2 := Lib.hid H2
    clear hI hr hg2 hR2 hI2 hs2' H2
    gi_wp2_with (first
      | (refine wpListIn_load_kv rfl _ rfl g n M rfl HR2.out ?_)
      | (refine wpListIn_alloc_kv rfl rfl ?_; intro w3 hr3 hb3 hz3; have HR3 := Lib.hid hr3; have HB3 := Lib.hid hb3; clear hr3 hb3)
      | (refine wpListIn_store_kv rfl _ _ rfl _ n 0 M Z49 rfl rfl HR2.out.len HR3.out ?_; intro w4 hr4 ho4; have hb4 := row_only HB3.out ho4; have HI4 := Lib.hid (HI2.out.below hb4 HI2.out.sz); have cd3 := HI4.out.b3.cell; have HR4 := Lib.hid hr4; have HB4 := Lib.hid hb4; clear hr4 ho4 hb4 tok1)
      | (refine ⟨trivial, ?_⟩; gi_at_call 63; refine (CallsIn.inRound l (callsIn_wide.2 (point_ex _ _ (by omega) (by omega)))).mono ?_; rintro e w5 ⟨rfl, rfl⟩)
      | (refine ⟨trivial, ?_⟩; gi_at_call 95; refine (CallsIn.inRound l (callsIn_wide.2 (add_any n M W₂.heap.size 0 (q + 1) x x _ (by omega) (by omega) HR4.out))).mono ?_; rintro e w6 ⟨rfl, hr6, hg6⟩; have HR6 := Lib.hid hr6; have HG6 := Lib.hid hg6; clear hr6 hg6))
    have hmx : Try.prog.follows .mixedOrders = true := by kernel_rfl
    have h6 : Below W₂.heap.size W₂ w6 := row_grown HB4.out HG6.out
    have hi6 := HI2.out.below h6 HI2.out.sz
    have HI6 := Lib.hid hi6; have H6 := Lib.hid h6
    have e5 := hi6.b5.cell
    have f5 := hi6.b5.frozen
    obtain ⟨s0, hs0⟩ : ∃ s, wst M n q pre = s := ⟨_, rfl⟩
    obtain ⟨v0, hv0⟩ : ∃ v, wd (addW M 0 (q + 1) x x).2 n = v := ⟨_, rfl⟩
    rw [hs0] at e5
    have hcw : ∀ m, CallsIn (Fence.wide.inRound l) m Try.prog 78 #[.pointer (some ⟨W₂.heap.size, 0, none⟩)] w6.drew fun e w' => e = .returned (.int .i64 v0) ∧ Below w6.heap.size w6 w' := fun m => by
      rw [← hv0]
      refine (CallsIn.inRound l (callsIn_wide.2 (width_any n (addW M 0 (q + 1) x x).2 W₂.heap.size w6.drew hn ⟨HR6.out.row, HR6.out.len⟩))).mono ?_
      rintro e w' ⟨rfl, hb⟩
      exact ⟨rfl, ⟨hb.os, hb.tape, hb.output, hb.size, hb.block⟩⟩
    have HCW := Lib.hid hcw; have HS0 := Lib.hid hs0; have HV0 := Lib.hid hv0
    clear hcw hs0 hv0 hi6 h6 cb2 cb3
    gi_region_with_o (refine ⟨trivial, ?_⟩; gi_at_call 78; refine (HCW.out _).mono ?_; rintro e w7 ⟨rfl, hb7⟩; have HI7 := Lib.hid (HI6.out.below hb7 HI6.out.sz); have HB7 := Lib.hid hb7; have e7 := HI7.out.b5.cell; have f7 := HI7.out.b5.frozen; rw [HS0.out] at e7; clear hb7)
    all_goals gi_wp2
    all_goals
      have hk := (Kp.of_below (B := w.heap.size + 3) H6.out).trans ((Kp.of_below HB7.out).trans (Kp.set_at w7 (w.heap.size + 1 + 1) (.int .i64 (max s0 v0)) (Nat.lt_succ_self _)))
      have hw := HI7.out.set (max s0 v0)
      rw [← HS0.out, ← HV0.out, ← wst_snoc] at hw
      rw [← HS0.out, ← HV0.out, ← wst_snoc] at hk
      have hm := wst_snoc M n q pre x
      rw [HS0.out, HV0.out] at hm
      first
        | (have e : wst M n q (pre ++ [x]) = v0 := by rw [hm]; omega
           rw [e] at hk
           refine ⟨hk, ?_⟩
           show WI w g q (wst M n q (pre ++ [x])) _
           rw [e] at hw ⊢
           exact hw)
        | (have e : wst M n q (pre ++ [x]) = s0 := by rw [hm]; omega
           rw [e] at hk
           refine ⟨hk, ?_⟩
           show WI w g q (wst M n q (pre ++ [x])) _
           rw [e] at hw ⊢
           exact hw)
  case done =>
    rintro D xs W hD rfl hI hK
    have c5 := hI.b5.cell
    gi_wp2
    refine ⟨by simp, .inl ⟨_, _, rfl, run_takeDeferred hK, ?_⟩⟩
    exact ⟨_, results_tmp rfl _ _ _, rfl, hI.bel.trans (below_putObj W _ (by have := hs2; omega))⟩
  case stop =>
    rintro D c pre W _ _ h _
    exact h.elim
end Go.Proofs.Ytmfbfcknnjbabaa
