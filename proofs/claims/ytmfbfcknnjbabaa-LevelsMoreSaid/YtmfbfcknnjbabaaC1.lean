/- The contract of Level, of a town with a truth. -/
import Derived.Test.YtmfbfcknnjbabaaB8
set_option linter.unusedSimpArgs false
set_option linter.unusedVariables false
namespace Go.Proofs.Ytmfbfcknnjbabaa
open Go.RowKit

theorem lit1 {w W : World} (x : Int) (hb : Below (w.alloc (.cells #[.int .i64 x] 3)).heap.size (w.alloc (.cells #[.int .i64 x] 3)) W) : 0 < [x].length → ∃ b o, (some ⟨w.heap.size, 0, none⟩ : Option Addr) = some ⟨b, o, none⟩ ∧ IntsAt W W.heap.size b o [x] := fun _ =>
  ⟨_, _, rfl, by have := hb.size; simp at this; omega, fun k hk => by
    obtain rfl : k = 0 := by simpa using hk
    exact (hb.cell (by simp)).trans (by go_simp)⟩
theorem lit2 {w W : World} (x y : Int) (hb : Below (w.alloc (.cells #[.int .i64 x, .int .i64 y] 3)).heap.size (w.alloc (.cells #[.int .i64 x, .int .i64 y] 3)) W) : 0 < [x, y].length → ∃ b o, (some ⟨w.heap.size, 0, none⟩ : Option Addr) = some ⟨b, o, none⟩ ∧ IntsAt W W.heap.size b o [x, y] := fun _ =>
  ⟨_, _, rfl, by have := hb.size; simp at this; omega, fun k hk => by
    have : k = 0 ∨ k = 1 := by simp at hk; omega
    rcases this with rfl | rfl
    · exact (hb.cell (by simp)).trans (by go_simp)
    · exact (hb.cell (by simp)).trans (by go_simp)⟩

/-- learn, of a town with a truth, for wells of it -/
theorem learn_ok (T : Town) (M : List Int) (p q : Option Addr) (c d : Nat) (xs : List Int) (x : Option Addr) (cx : Nat) (w : World) (hok : T.ok = true) (hk : kn T = some M) (ha : asks T xs = true) (hx : xs.length ≤ 1000) (ht : TownIn w w.heap.size T p q)
    (h1 : 0 < xs.length → ∃ b o, x = some ⟨b, o, none⟩ ∧ IntsAt w w.heap.size b o xs) :
    Calls Try.prog 58 #[.agg #[.int .i64 T.W, .slice p T.s.length c, .slice q T.r.length d], .slice x xs.length cx] w fun e w' =>
      e = .returned (.tuple #[.agg (kv T.W M), .int .i64 0]) ∧ Below w.heap.size w w' := by
  have hl := ok_len hok
  have h := learn_any T p q c d xs x cx w (by omega) (by omega) hx ht h1
  have e : learnt T xs = (T.W, M, 0) := by simp [learnt, hok, ha, hk]
  rw [e] at h
  exact h

set_option maxRecDepth 100000 in
set_option maxHeartbeats 2000000 in
theorem level_ok (T : Town) (M : List Int) (u : Nat) (p q : Option Addr) (c d : Nat) (w : World) (hok : T.ok = true) (hk : kn T = some M) (hu : (u : Int) < T.W) (ht : TownIn w w.heap.size T p q) :
    Calls Try.prog 24 #[.agg #[.int .i64 T.W, .slice p T.s.length c, .slice q T.r.length d], .int .i64 u] w fun e w' =>
      e = .returned (.tuple #[.agg #[.int .i64 (dif M 0 (u + 1)).1, .int .i64 (dif M 0 (u + 1)).2], .int .i64 0]) ∧ Below w.heap.size w w' := by
  obtain ⟨w1, hw1, hb1, hz1, k0, k1, k2⟩ := box_town w T.W p q T.s.length T.r.length c d
  have hl1 : w.heap.size < w1.heap.size := by omega
  have hM : M.length = 49 := hTo_len hk
  have hW := ok_W hok
  obtain ⟨⟨y1, y2⟩, hy⟩ : ∃ y, dif M 0 (u + 1) = y := ⟨_, rfl⟩
  have ha : asks T [(u : Int)] = true := by simp [asks, within]; omega
  have hlearn : ∀ W cx g, W.heap.size = g → Below w1.heap.size w1 W → Calls Try.prog 58 #[.agg #[.int .i64 T.W, .slice p T.s.length c, .slice q T.r.length d], .slice (some ⟨g, 0, none⟩) 1 cx] (W.alloc (.cells #[.int .i64 u] 3)) fun e w' =>
      e = .returned (.tuple #[.agg (kv T.W M), .int .i64 0]) ∧ Below (W.alloc (.cells #[.int .i64 u] 3)).heap.size (W.alloc (.cells #[.int .i64 u] 3)) w' := fun W cx g hg hW => by
    subst hg
    exact learn_ok T M p q c d [(u : Int)] _ cx _ hok hk ha (by simp) ((ht.below (bT hb1 (bA hW _))).mono (bT hb1 (bA hW _)).size) (lit1 _ (Below.refl _ _))
  have hlev : ∀ W g, RowAt W g T.W M → Calls Try.prog 59 #[.pointer (some ⟨g, 0, none⟩), .int .i64 u] W fun e w' => e = .returned (.agg #[.int .i64 y1, .int .i64 y2]) ∧ Below W.heap.size W w' := fun W g hr => by
    have := level_any T.W M g u W (by omega) hr
    rwa [hy] at this
  rw [hy]
  have HL := Lib.hid hlearn; have HV := Lib.hid hlev; have HB1 := Lib.hid hb1
  clear hlearn hlev hb1 hz1 ht hok hk ha hy
  go_enter Try.func24, Try.ntmps24
  go_wp2_with (first
    | (go_at_call 58; refine (HL.out _ _ _ (by simp) (by repeat (first | exact Below.refl _ _ | refine bA ?_ _))).mono ?_; rintro e w2 ⟨rfl, hb2⟩; have HB2 := Lib.hid (bT (by repeat (first | exact Below.refl _ _ | refine bA ?_ _) : Below w1.heap.size w1 _) hb2); have hl2 : w1.heap.size + 1 < w2.heap.size := (by have := hb2.size; simp at this; omega); have r0 : w2.cell? ⟨w1.heap.size, 0, none⟩ = some (.int .i64 0) := (hb2.cell (by simp; try omega)).trans (by go_simp); have r1 : w2.cell? ⟨w1.heap.size, 1, none⟩ = some (.int .i64 0) := (hb2.cell (by simp; try omega)).trans (by go_simp); have f0 : ∀ i, w2.frozen? ⟨w1.heap.size, i, none⟩ = false := (fun i => (hb2.frozen (by simp; try omega)).trans (by go_simp)); clear hb2)
    | (refine wpList_alloc_kv rfl rfl ?_; intro w3 hr3 hb3 hz3; have HR3 := Lib.hid hr3; have HB3 := Lib.hid hb3; have HZ3 := Lib.hid hz3; clear hr3 hb3 hz3)
    | (refine wpList_store_kv rfl _ _ rfl _ T.W 0 M Z49 rfl rfl hM HR3.out ?_; intro w4 hr4 ho4; have HR4 := Lib.hid hr4; have HB4 := Lib.hid (only_below HB3.out ho4 (Nat.le_refl _)); clear hr4 ho4)
    | (go_at_call 59; refine (HV.out _ _ HR4.out).mono ?_; rintro e w5 ⟨rfl, hb5⟩; have HB5 := Lib.hid (bT HB4.out hb5); have s0 := (HB5.out.cell (p := ⟨w1.heap.size, 0, none⟩) (by simp; omega)).trans r0; have s1 := (HB5.out.cell (p := ⟨w1.heap.size, 1, none⟩) (by simp; omega)).trans r1; have g0 : ∀ i, w5.frozen? ⟨w1.heap.size, i, none⟩ = false := (fun i => (HB5.out.frozen (by simp; omega)).trans (f0 i)); clear hb5))
  exact bodyPost_ret (v := .tuple #[.agg #[.int .i64 y1, .int .i64 y2], .int .i64 0]) (by simp [results, Try.results24, go_sem, s0, s1]) rfl ⟨rfl, bS (bS (bT (bT HB1.out HB2.out) HB5.out) (by simp; omega) _) (by simp; omega) _⟩
end Go.Proofs.Ytmfbfcknnjbabaa
