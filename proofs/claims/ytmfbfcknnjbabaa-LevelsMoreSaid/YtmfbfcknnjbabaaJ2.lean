/- Differ of a town without a truth; IsWell and inside as they are met in a walk. -/
import Derived.Test.YtmfbfcknnjbabaaJ1
import Derived.Test.YtmfbfcknnjbabaaG7
set_option linter.unusedSimpArgs false
set_option linter.unusedVariables false
namespace Go.Proofs.Ytmfbfcknnjbabaa
open Go.RowKit

theorem learn_none (T : Town) (p q : Option Addr) (c d : Nat) (xs : List Int) (x : Option Addr) (cx : Nat) (w : World) (hok : T.ok = true) (hk : kn T = none) (ha : asks T xs = true) (hx : xs.length ≤ 1000) (ht : TownIn w w.heap.size T p q)
    (h1 : 0 < xs.length → ∃ b o, x = some ⟨b, o, none⟩ ∧ IntsAt w w.heap.size b o xs) :
    Calls Try.prog 58 #[.agg #[.int .i64 T.W, .slice p T.s.length c, .slice q T.r.length d], .slice x xs.length cx] w fun e w' =>
      e = .returned (.tuple #[.agg (kv 0 Z49), .int .i64 3]) ∧ Below w.heap.size w w' := by
  have hl := ok_len hok
  have h := learn_any T p q c d xs x cx w (by omega) (by omega) hx ht h1
  have e : learnt T xs = (0, Z49, 3) := by simp [learnt, hok, ha, hk]
  rw [e] at h
  exact h

set_option maxRecDepth 100000 in
set_option maxHeartbeats 2000000 in
theorem differ_no (T : Town) (u v : Nat) (p q : Option Addr) (c d : Nat) (w : World) (hok : T.ok = true) (hk : kn T = none) (hu : (u : Int) < T.W) (hv : (v : Int) < T.W) (ht : TownIn w w.heap.size T p q) :
    Calls Try.prog 33 #[.agg #[.int .i64 T.W, .slice p T.s.length c, .slice q T.r.length d], .int .i64 u, .int .i64 v] w fun e w' =>
      e = .returned (.tuple #[.agg #[.int .i64 0, .int .i64 0], .int .i64 3]) ∧ Below w.heap.size w w' := by
  obtain ⟨w1, hw1, hb1, hz1, k0, k1, k2⟩ := box_town w T.W p q T.s.length T.r.length c d
  have hl1 : w.heap.size < w1.heap.size := by omega
  have hW := ok_W hok
  have ha : asks T [(u : Int), (v : Int)] = true := by simp [asks, within]; omega
  have hlearn : ∀ W cx g, W.heap.size = g → Below w1.heap.size w1 W → Calls Try.prog 58 #[.agg #[.int .i64 T.W, .slice p T.s.length c, .slice q T.r.length d], .slice (some ⟨g, 0, none⟩) 2 cx] (W.alloc (.cells #[.int .i64 u, .int .i64 v] 3)) fun e w' =>
      e = .returned (.tuple #[.agg (kv 0 Z49), .int .i64 3]) ∧ Below (W.alloc (.cells #[.int .i64 u, .int .i64 v] 3)).heap.size (W.alloc (.cells #[.int .i64 u, .int .i64 v] 3)) w' := fun W cx g hg hW => by
    subst hg
    exact learn_none T p q c d [(u : Int), (v : Int)] _ cx _ hok hk ha (by simp) ((ht.below (bT hb1 (bA hW _))).mono (bT hb1 (bA hW _)).size) (lit2 _ _ (Below.refl _ _))
  have u0 : (u : Int) ≤ 6 := by omega
  have v0 : (v : Int) ≤ 6 := by omega
  have HL := Lib.hid hlearn; have HB1 := Lib.hid hb1
  clear hlearn hb1 hz1 ht hok hk ha
  go_enter Try.func33, Try.ntmps33
  go_wp2_with (first
    | (go_at_call 58; refine (HL.out _ _ _ (by simp) (by repeat (first | exact Below.refl _ _ | refine bA ?_ _))).mono ?_; rintro e w2 ⟨rfl, hb2⟩; have HB2 := Lib.hid (bT (by repeat (first | exact Below.refl _ _ | refine bA ?_ _) : Below w1.heap.size w1 _) hb2); have hl2 : w1.heap.size + 1 < w2.heap.size := (by have := hb2.size; simp at this; omega); have r0 : w2.cell? ⟨w1.heap.size, 0, none⟩ = some (.int .i64 0) := (hb2.cell (by simp; try omega)).trans (by go_simp); have r1 : w2.cell? ⟨w1.heap.size, 1, none⟩ = some (.int .i64 0) := (hb2.cell (by simp; try omega)).trans (by go_simp); have f0 : ∀ i, w2.frozen? ⟨w1.heap.size, i, none⟩ = false := (fun i => (hb2.frozen (by simp; try omega)).trans (by go_simp)); clear hb2)
    | (refine wpList_alloc_kv rfl rfl ?_; intro w3 hr3 hb3 hz3; have HR3 := Lib.hid hr3; have HB3 := Lib.hid hb3; have HZ3 := Lib.hid hz3; clear hr3 hb3 hz3)
    | (refine wpList_store_kv rfl _ _ rfl _ 0 0 Z49 Z49 rfl rfl rfl HR3.out ?_; intro w4 hr4 ho4; go_must (have HB4 := Lib.hid (only_below HB3.out ho4 (Nat.le_refl _)); have s0 := (HB4.out.cell (p := ⟨w1.heap.size, 0, none⟩) (by simp; omega)).trans r0; have s1 := (HB4.out.cell (p := ⟨w1.heap.size, 1, none⟩) (by simp; omega)).trans r1; have g0 : ∀ i, w4.frozen? ⟨w1.heap.size, i, none⟩ = false := (fun i => (HB4.out.frozen (by simp; omega)).trans (f0 i)); clear hr4 ho4)))
  exact bodyPost_ret (v := .tuple #[.agg #[.int .i64 0, .int .i64 0], .int .i64 3]) (by simp [results, Try.results33, go_sem, s0, s1]) rfl ⟨rfl, bS (bS (bT (bT HB1.out HB2.out) HB4.out) (by simp; omega) _) (by simp; omega) _⟩

theorem isWell_b (W n : Int) (s r : Value) (b : Bool) (w : World) (h0 : 0 ≤ W) (h1 : W ≤ 100) (hb : within n 0 (W - 1) = b) :
    Calls Try.prog 48 #[.agg #[.int .i64 W, s, r], .int .i64 n] w fun e w' => e = .returned (.bool b) ∧ Below w.heap.size w w' :=
  (isWell_ex W n s r w h0 h1).mono fun _ _ ⟨he, hw⟩ => ⟨by rw [he, hb], hw ▸ bA (Below.refl _ _) _⟩

set_option maxRecDepth 100000 in
set_option maxHeartbeats 2000000 in
theorem inside_tt (a b c d : Int) (w : World) (h1 : c ≤ a) (h2 : a ≤ b) (h3 : b ≤ d) :
    Calls Try.prog 53 #[.agg #[.int .i64 a, .int .i64 b], .agg #[.int .i64 c, .int .i64 d]] w fun e w' => e = .returned (.bool true) ∧ Below w.heap.size w w' := by
  go_enter Try.func53, Try.ntmps53
  go_wp2
  go_ret
  exact ⟨rfl, bA (bA (Below.refl _ _) _) _⟩
end Go.Proofs.Ytmfbfcknnjbabaa
