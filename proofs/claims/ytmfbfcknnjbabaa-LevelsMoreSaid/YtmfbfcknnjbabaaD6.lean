/- The contracts of lists, and of what it returns. -/
import Derived.Test.YtmfbfcknnjbabaaD4
import Derived.Test.YtmfbfcknnjbabaaD5
import Derived.Deep.RegionHeld3
import Derived.Laws.MakeOwn
set_option linter.unusedSimpArgs false
set_option linter.unusedVariables false
namespace Go.Proofs.Ytmfbfcknnjbabaa
open Go.RowKit Go.Shelf

theorem make_ints (n : Nat) (hn : n ≤ 1000) (W : World) : (Instr.makeSlice 26 (.int .i64 0) (.int .i64 (n : Int))).run Try.prog W = .ok (.slice (some ⟨W.heap.size, 0, none⟩) 0 n) (W.alloc (.cells (madeCells #[.int .i64 0] n) 3)) := by
  obtain ⟨i0, hi, hz, hs, hb⟩ := info_parts info3d
  have := run_make (P := Try.prog) W 26 3 i0 _ Try.underlying26 hi hz .i64 .i64 0 (n : Int) (by omega) (by omega) (by rw [hb]; omega) (by omega)
  simpa [hs, Value.cells] using this
theorem row_made (W : World) (n : Nat) (hn : n ≤ 1000) : RowG (W.alloc (.cells (madeCells #[.int .i64 0] n) 3)) W.heap.size n [] := by
  have := World.ownsRow_made (base := 0) (e := 3) (size := 1) W (madeCells #[.int .i64 0] n) n (Nat.zero_le _) (by unfold maxLen; omega) (by rw [size_madeCells]; omega)
  simpa [RowG] using this

theorem row_drew {W : World} {g n : Nat} {l : List Int} (h : RowG W g n l) : RowG W.drew g n l := h
theorem bd' {B : Nat} {a w : World} (h : Below B a w) : Below B a w.drew := ⟨h.os, h.tape, h.output, h.size, h.block⟩
theorem bA' {B : Nat} {a w : World} (h : Below B a w) (o : Obj) (hb : B ≤ w.heap.size) : Below B a (w.alloc o) := h.alloc hb o

/-- lists, of 66 -/
theorem lists66_ex (many n : Int) (w : World) :
    Calls Try.prog 65 #[.int .i64 many, .int .i64 n, .func (.func 66) #[] #[]] w fun e w' => e = .returned (.func (.func 91) #[] #[.pointer (some ⟨w.heap.size + 1, 0, none⟩), .pointer (some ⟨w.heap.size, 0, none⟩), .pointer (some ⟨w.heap.size + 2, 0, none⟩)]) ∧
      ((w.alloc (.cells #[.int .i64 many] 3)).alloc (.cells #[.int .i64 n] 3)).alloc (.cells #[.func (.func 66) #[] #[]] 90) = w' := by
  go_enter Try.func65, Try.ntmps65
  go_wp2
  go_ret
  exact ⟨rfl, rfl⟩

def GP66 (J Jx : List Got → World → Prop) (many n g : Nat) (b : Bool) (W' : World) : Prop :=
  (b = true ∧ J (got g n (ext ascB many n [])) W') ∨ (b = false ∧ ∃ q, q <+: got g n (ext ascB many n []) ∧ Jx q W')

set_option maxRecDepth 100000 in
set_option maxHeartbeats 2000000 in
/-- what the iterator does -/
theorem lists166_any (l many n B b1 b2 b3 : Nat) (J Jx : List Got → World → Prop) (W : World) (hn : n ≤ 1000) (hm : many ≤ 1000) (hB : B ≤ W.heap.size)
    (hJ : ∀ s A A', J s A → Below B A A' → J s A')
    (hY : ∀ m pre x A, J pre A → PG x A → YieldAt Fence.wide m Try.prog l (encG x) A fun e A' => (e = .returned (.bool true) ∧ J (pre ++ [x]) A' ∧ Kp B A A') ∨ (e = .returned (.bool false) ∧ Jx (pre ++ [x]) A'))
    (hC : ∀ s A, J s A ∨ Jx s A → A.cell? ⟨b1, 0, none⟩ = some (.int .i64 n) ∧ A.cell? ⟨b2, 0, none⟩ = some (.int .i64 many) ∧ A.cell? ⟨b3, 0, none⟩ = some (.func (.func 66) #[] #[]))
    (c1 : W.cell? ⟨b1, 0, none⟩ = some (.int .i64 n)) (c2 : W.cell? ⟨b2, 0, none⟩ = some (.int .i64 many)) (c3 : W.cell? ⟨b3, 0, none⟩ = some (.func (.func 66) #[] #[])) (h0 : J [] W) :
    Calls Try.prog 91 #[.func (.yield l) #[] #[], .pointer (some ⟨b1, 0, none⟩), .pointer (some ⟨b2, 0, none⟩), .pointer (some ⟨b3, 0, none⟩)] W fun e A' => (∃ v, e = .returned v) ∧
      ((∃ xs : List Got, xs.map (fun x => x.2.2) = ext ascB many n [] ∧ J xs A') ∨ (∃ pre : List Got, (pre.map fun x => x.2.2) <+: ext ascB many n [] ∧ Jx pre A')) := by
  have hgrow : ∀ (A : World) (g : Nat), RowG A g n [] → B ≤ g → J [] A → Calls Try.prog 92 #[.slice (some ⟨g, 0, none⟩) 0 n, .int .i64 many, .int .i64 n, .func (.func 66) #[] #[], .func (.yield l) #[] #[]] A fun e W' => ∃ b, e = .returned (.bool b) ∧ GP66 J Jx many n g b W' ∧ W'.cell? ⟨b1, 0, none⟩ = some (.int .i64 n) ∧ W'.cell? ⟨b2, 0, none⟩ = some (.int .i64 many) ∧ W'.cell? ⟨b3, 0, none⟩ = some (.func (.func 66) #[] #[]) := fun A g hr hg hj => by
    have := callsIn_wide.1 (grow66_in l many n B J Jx hn hm hJ hY n 1 [] [] g A (by simp) hg hr hj)
    refine this.mono ?_
    rintro e W' (⟨rfl, h1, _⟩ | ⟨rfl, q, hq, hx⟩)
    · exact ⟨true, rfl, .inl ⟨rfl, by simpa using h1⟩, hC _ _ (.inl h1)⟩
    · exact ⟨false, rfl, .inr ⟨rfl, q, hq, by simpa using hx⟩, hC _ _ (.inr hx)⟩
  have HG := Lib.hid hgrow; have HJ := Lib.hid hJ; have H0 := Lib.hid h0
  have hmk := fun W => make_ints n hn W
  have l1 := World.block_lt_of_cell? W _ c1
  have l2 := World.block_lt_of_cell? W _ c2
  have l3 := World.block_lt_of_cell? W _ c3
  clear hgrow hJ hY h0 hC
  go_enter Try.func91, Try.ntmps91
  go_wp2
  go_region_held3 (fun w' => w'.cell? ⟨b1, 0, none⟩ = some (.int .i64 n) ∧ w'.cell? ⟨b2, 0, none⟩ = some (.int .i64 many) ∧ w'.cell? ⟨b3, 0, none⟩ = some (.func (.func 66) #[] #[]))
    (first | go_keep | exact ⟨d1, d2, d3⟩)
    (first | (go_at_call 92; refine (HG.out _ W.heap.size (row_drew (row_made W n hn)) hB (HJ.out _ _ _ H0.out (bd' (bA' (Below.refl _ _) _ hB)))).mono ?_; rintro e w1 ⟨b, rfl, hp, d1, d2, d3⟩; have HP := Lib.hid hp; clear hp))
  all_goals
    go_wp2
    go_end0
    refine ⟨⟨_, rfl⟩, ?_⟩
    rcases HP.out with ⟨_, h⟩ | ⟨_, q, hq, hx⟩
    · exact .inl ⟨_, by simp [got, Function.comp_def], h⟩
    · refine .inr ⟨q, ?_, hx⟩
      have := List.IsPrefix.map (fun x : Got => x.2.2) hq
      simpa [got, Function.comp_def] using this

/-- lists, of 81 -/
theorem lists81_ex (many n : Int) (w : World) :
    Calls Try.prog 65 #[.int .i64 many, .int .i64 n, .func (.func 81) #[] #[]] w fun e w' => e = .returned (.func (.func 91) #[] #[.pointer (some ⟨w.heap.size + 1, 0, none⟩), .pointer (some ⟨w.heap.size, 0, none⟩), .pointer (some ⟨w.heap.size + 2, 0, none⟩)]) ∧
      ((w.alloc (.cells #[.int .i64 many] 3)).alloc (.cells #[.int .i64 n] 3)).alloc (.cells #[.func (.func 81) #[] #[]] 90) = w' := by
  go_enter Try.func65, Try.ntmps65
  go_wp2
  go_ret
  exact ⟨rfl, rfl⟩

def GP81 (J Jx : List Got → World → Prop) (many n g : Nat) (b : Bool) (W' : World) : Prop :=
  (b = true ∧ J (got g n (ext difB many n [])) W') ∨ (b = false ∧ ∃ q, q <+: got g n (ext difB many n []) ∧ Jx q W')

set_option maxRecDepth 100000 in
set_option maxHeartbeats 2000000 in
/-- what the iterator does -/
theorem lists181_any (l many n B b1 b2 b3 : Nat) (J Jx : List Got → World → Prop) (W : World) (hn : n ≤ 1000) (hm : many ≤ 1000) (hB : B ≤ W.heap.size)
    (hJ : ∀ s A A', J s A → Below B A A' → J s A')
    (hY : ∀ m pre x A, J pre A → PG x A → YieldAt Fence.wide m Try.prog l (encG x) A fun e A' => (e = .returned (.bool true) ∧ J (pre ++ [x]) A' ∧ Kp B A A') ∨ (e = .returned (.bool false) ∧ Jx (pre ++ [x]) A'))
    (hC : ∀ s A, J s A ∨ Jx s A → A.cell? ⟨b1, 0, none⟩ = some (.int .i64 n) ∧ A.cell? ⟨b2, 0, none⟩ = some (.int .i64 many) ∧ A.cell? ⟨b3, 0, none⟩ = some (.func (.func 81) #[] #[]))
    (c1 : W.cell? ⟨b1, 0, none⟩ = some (.int .i64 n)) (c2 : W.cell? ⟨b2, 0, none⟩ = some (.int .i64 many)) (c3 : W.cell? ⟨b3, 0, none⟩ = some (.func (.func 81) #[] #[])) (h0 : J [] W) :
    Calls Try.prog 91 #[.func (.yield l) #[] #[], .pointer (some ⟨b1, 0, none⟩), .pointer (some ⟨b2, 0, none⟩), .pointer (some ⟨b3, 0, none⟩)] W fun e A' => (∃ v, e = .returned v) ∧
      ((∃ xs : List Got, xs.map (fun x => x.2.2) = ext difB many n [] ∧ J xs A') ∨ (∃ pre : List Got, (pre.map fun x => x.2.2) <+: ext difB many n [] ∧ Jx pre A')) := by
  have hgrow : ∀ (A : World) (g : Nat), RowG A g n [] → B ≤ g → J [] A → Calls Try.prog 92 #[.slice (some ⟨g, 0, none⟩) 0 n, .int .i64 many, .int .i64 n, .func (.func 81) #[] #[], .func (.yield l) #[] #[]] A fun e W' => ∃ b, e = .returned (.bool b) ∧ GP81 J Jx many n g b W' ∧ W'.cell? ⟨b1, 0, none⟩ = some (.int .i64 n) ∧ W'.cell? ⟨b2, 0, none⟩ = some (.int .i64 many) ∧ W'.cell? ⟨b3, 0, none⟩ = some (.func (.func 81) #[] #[]) := fun A g hr hg hj => by
    have := callsIn_wide.1 (grow81_in l many n B J Jx hn hm hJ hY n 1 [] [] g A (by simp) hg hr hj)
    refine this.mono ?_
    rintro e W' (⟨rfl, h1, _⟩ | ⟨rfl, q, hq, hx⟩)
    · exact ⟨true, rfl, .inl ⟨rfl, by simpa using h1⟩, hC _ _ (.inl h1)⟩
    · exact ⟨false, rfl, .inr ⟨rfl, q, hq, by simpa using hx⟩, hC _ _ (.inr hx)⟩
  have HG := Lib.hid hgrow; have HJ := Lib.hid hJ; have H0 := Lib.hid h0
  have hmk := fun W => make_ints n hn W
  have l1 := World.block_lt_of_cell? W _ c1
  have l2 := World.block_lt_of_cell? W _ c2
  have l3 := World.block_lt_of_cell? W _ c3
  clear hgrow hJ hY h0 hC
  go_enter Try.func91, Try.ntmps91
  go_wp2
  go_region_held3 (fun w' => w'.cell? ⟨b1, 0, none⟩ = some (.int .i64 n) ∧ w'.cell? ⟨b2, 0, none⟩ = some (.int .i64 many) ∧ w'.cell? ⟨b3, 0, none⟩ = some (.func (.func 81) #[] #[]))
    (first | go_keep | exact ⟨d1, d2, d3⟩)
    (first | (go_at_call 92; refine (HG.out _ W.heap.size (row_drew (row_made W n hn)) hB (HJ.out _ _ _ H0.out (bd' (bA' (Below.refl _ _) _ hB)))).mono ?_; rintro e w1 ⟨b, rfl, hp, d1, d2, d3⟩; have HP := Lib.hid hp; clear hp))
  all_goals
    go_wp2
    go_end0
    refine ⟨⟨_, rfl⟩, ?_⟩
    rcases HP.out with ⟨_, h⟩ | ⟨_, q, hq, hx⟩
    · exact .inl ⟨_, by simp [got, Function.comp_def], h⟩
    · refine .inr ⟨q, ?_, hx⟩
      have := List.IsPrefix.map (fun x : Got => x.2.2) hq
      simpa [got, Function.comp_def] using this
end Go.Proofs.Ytmfbfcknnjbabaa
