/- The contract of Level, of a town with a truth. The contracts of Differ and Lowest, of a town with a truth. -/
import Derived.Test.YtmfbfcknnjbabaaB8
set_option linter.unusedSimpArgs false
set_option linter.unusedVariables false
namespace Go.Proofs.Ytmfbfcknnjbabaa
open Go.RowKit

theorem lit1 {w W : World} (x : Int) (hb : Below (w.alloc (.cells #[.int .i64 x] 3)).heap.size (w.alloc (.cells #[.int .i64 x] 3)) W) : 0 < [x].length → ∃ b o, (some ⟨w.heap.size, 0, none⟩ : Option Addr) = some ⟨b, o, none⟩ ∧ IntsAt W W.heap.size b o [x] := fun _ =>
  ⟨_, _, rfl, by have := hb.size; simp at this; omega, fun k hk => by
    obtain rfl : k = 0 := by simpa using hk
    exact (hb.cell (by simp)).trans (by go_simp)⟩
theorem lit2 {w W : World} (x y : Int) (hb : Below (w.alloc (.cells #[.int .i64 x, .int .i64 y] 3)).heap.size (w.alloc (.cells #[.int .i64 x, .int .i64 y] 3)) W) : 0 < [x, y].length → ∃ b o, (some ⟨w.heap.size, 0, none⟩ : Option Addr) = some ⟨b, o, none⟩ ∧ IntsAt W W.heap.size b o [x, y] := fun _ =>
  ⟨_, _, rfl, by have := hb.size; simp at this; omega, fun k hk => by
    have : k = 0 ∨ k = 1 := by simp at hk; omega
    rcases this with rfl | rfl
    · exact (hb.cell (by simp)).trans (by go_simp)
    · exact (hb.cell (by simp)).trans (by go_simp)⟩

/-- learn, of a town with a truth, for wells of it -/
theorem learn_ok (T : Town) (M : List Int) (p q : Option Addr) (c d : Nat) (xs : List Int) (x : Option Addr) (cx : Nat) (w : World) (hok : T.ok = true) (hk : kn T = some M) (ha : asks T xs = true) (hx : xs.length ≤ 1000) (ht : TownIn w w.heap.size T p q)
    (h1 : 0 < xs.length → ∃ b o, x = some ⟨b, o, none⟩ ∧ IntsAt w w.heap.size b o xs) :
    Calls Try.prog 58 #[.agg #[.int .i64 T.W, .slice p T.s.length c, .slice q T.r.length d], .slice x xs.length cx] w fun e w' =>
      e = .returned (.tuple #[.agg (kv T.W M), .int .i64 0]) ∧ Below w.heap.size w w' := by
  have hl := ok_len hok
  have h := learn_any T p q c d xs x cx w (by omega) (by omega) hx ht h1
  have e : learnt T xs = (T.W, M, 0) := by simp [learnt, hok, ha, hk]
  rw [e] at h
  exact h

set_option maxRecDepth 100000 in
set_option maxHeartbeats 2000000 in
theorem level_ok (T : Town) (M : List Int) (u : Nat) (p q : Option Addr) (c d : Nat) (w : World) (hok : T.ok = true) (hk : kn T = some M) (hu : (u : Int) < T.W) (ht : TownIn w w.heap.size T p q) :
    Calls Try.prog 24 #[.agg #[.int .i64 T.W, .slice p T.s.length c, .slice q T.r.length d], .int .i64 u] w fun e w' =>
      e = .returned (.tuple #[.agg #[.int .i64 (dif M 0 (u + 1)).1, .int .i64 (dif M 0 (u + 1)).2], .int .i64 0]) ∧ Below w.heap.size w w' := by
  obtain ⟨w1, hw1, hb1, hz1, k0, k1, k2⟩ := box_town w T.W p q T.s.length T.r.length c d
  have hl1 : w.heap.size < w1.heap.size := by omega
  have hM : M.length = 49 := hTo_len hk
  have hW := ok_W hok
  obtain ⟨⟨y1, y2⟩, hy⟩ : ∃ y, dif M 0 (u + 1) = y := ⟨_, rfl⟩
  have ha : asks T [(u : Int)] = true := by simp [asks, within]; omega
  have hlearn : ∀ W cx g, W.heap.size = g → Below w1.heap.size w1 W → Calls Try.prog 58 #[.agg #[.int .i64 T.W, .slice p T.s.length c, .slice q T.r.length d], .slice (some ⟨g, 0, none⟩) 1 cx] (W.alloc (.cells #[.int .i64 u] 3)) fun e w' =>
      e = .returned (.tuple #[.agg (kv T.W M), .int .i64 0]) ∧ Below (W.alloc (.cells #[.int .i64 u] 3)).heap.size (W.alloc (.cells #[.int .i64 u] 3)) w' := fun W cx g hg hW => by
    subst hg
    exact learn_ok T M p q c d [(u : Int)] _ cx _ hok hk ha (by simp) ((ht.below (bT hb1 (bA hW _))).mono (bT hb1 (bA hW _)).size) (lit1 _ (Below.refl _ _))
  have hlev : ∀ W g, RowAt W g T.W M → Calls Try.prog 59 #[.pointer (some ⟨g, 0, none⟩), .int .i64 u] W fun e w' => e = .returned (.agg #[.int .i64 y1, .int .i64 y2]) ∧ Below W.heap.size W w' := fun W g hr => by
    have := level_any T.W M g u W (by omega) hr
    rwa [hy] at this
  rw [hy]
  have HL := Lib.hid hlearn; have HV := Lib.hid hlev; have HB1 := Lib.hid hb1
  clear hlearn hlev hb1 hz1 ht hok hk ha hy
  go_enter Try.func24, Try.ntmps24
  go_wp2_with (first
    | (go_at_call 58; refine (HL.out _ _ _ (by simp) (by repeat (first | exact Below.refl _ _ | refine bA ?_ _))).mono ?_; rintro e w2 ⟨rfl, hb2⟩; have HB2 := Lib.hid (bT (by repeat (first | exact Below.refl _ _ | refine bA ?_ _) : Below w1.heap.size w1 _) hb2); have hl2 : w1.heap.size + 1 < w2.heap.size := (by have := hb2.size; simp at this; omega); have r0 : w2.cell? ⟨w1.heap.size, 0, none⟩ = some (.int .i64 0) := (hb2.cell (by simp; try omega)).trans (by go_simp); have r1 : w2.cell? ⟨w1.heap.size, 1, none⟩ = some (.int .i64 0) := (hb2.cell (by simp; try omega)).trans (by go_simp); have f0 : ∀ i, w2.frozen? ⟨w1.heap.size, i, none⟩ = false := (fun i => (hb2.frozen (by simp; try omega)).trans (by go_simp)); clear hb2)
    | (refine wpList_alloc_kv rfl rfl ?_; intro w3 hr3 hb3 hz3; have HR3 := Lib.hid hr3; have HB3 := Lib.hid hb3; have HZ3 := Lib.hid hz3; clear hr3 hb3 hz3)
    | (refine wpList_store_kv rfl _ _ rfl _ T.W 0 M Z49 rfl rfl hM HR3.out ?_; intro w4 hr4 ho4; have HR4 := Lib.hid hr4; have HB4 := Lib.hid (only_below HB3.out ho4 (Nat.le_refl _)); clear hr4 ho4)
    | (go_at_call 59; refine (HV.out _ _ HR4.out).mono ?_; rintro e w5 ⟨rfl, hb5⟩; have HB5 := Lib.hid (bT HB4.out hb5); have s0 := (HB5.out.cell (p := ⟨w1.heap.size, 0, none⟩) (by simp; omega)).trans r0; have s1 := (HB5.out.cell (p := ⟨w1.heap.size, 1, none⟩) (by simp; omega)).trans r1; have g0 : ∀ i, w5.frozen? ⟨w1.heap.size, i, none⟩ = false := (fun i => (HB5.out.frozen (by simp; omega)).trans (f0 i)); clear hb5))
  exact bodyPost_ret (v := .tuple #[.agg #[.int .i64 y1, .int .i64 y2], .int .i64 0]) (by simp [results, Try.results24, go_sem, s0, s1]) rfl ⟨rfl, bS (bS (bT (bT HB1.out HB2.out) HB5.out) (by simp; omega) _) (by simp; omega) _⟩
end Go.Proofs.Ytmfbfcknnjbabaa

namespace Go.Proofs.Ytmfbfcknnjbabaa
open Go.RowKit

set_option maxRecDepth 100000 in
set_option maxHeartbeats 2000000 in
theorem differ_ok (T : Town) (M : List Int) (u v : Nat) (p q : Option Addr) (c d : Nat) (w : World) (hok : T.ok = true) (hk : kn T = some M) (hu : (u : Int) < T.W) (hv : (v : Int) < T.W) (ht : TownIn w w.heap.size T p q) :
    Calls Try.prog 33 #[.agg #[.int .i64 T.W, .slice p T.s.length c, .slice q T.r.length d], .int .i64 u, .int .i64 v] w fun e w' =>
      e = .returned (.tuple #[.agg #[.int .i64 (dif M (u + 1) (v + 1)).1, .int .i64 (dif M (u + 1) (v + 1)).2], .int .i64 0]) ∧ Below w.heap.size w w' := by
  obtain ⟨w1, hw1, hb1, hz1, k0, k1, k2⟩ := box_town w T.W p q T.s.length T.r.length c d
  have hl1 : w.heap.size < w1.heap.size := by omega
  have hM : M.length = 49 := hTo_len hk
  have hW := ok_W hok
  obtain ⟨⟨y1, y2⟩, hy⟩ : ∃ y, dif M (u + 1) (v + 1) = y := ⟨_, rfl⟩
  have ha : asks T [(u : Int), (v : Int)] = true := by simp [asks, within]; omega
  have hlearn : ∀ W cx g, W.heap.size = g → Below w1.heap.size w1 W → Calls Try.prog 58 #[.agg #[.int .i64 T.W, .slice p T.s.length c, .slice q T.r.length d], .slice (some ⟨g, 0, none⟩) 2 cx] (W.alloc (.cells #[.int .i64 u, .int .i64 v] 3)) fun e w' =>
      e = .returned (.tuple #[.agg (kv T.W M), .int .i64 0]) ∧ Below (W.alloc (.cells #[.int .i64 u, .int .i64 v] 3)).heap.size (W.alloc (.cells #[.int .i64 u, .int .i64 v] 3)) w' := fun W cx g hg hW => by
    subst hg
    exact learn_ok T M p q c d [(u : Int), (v : Int)] _ cx _ hok hk ha (by simp) ((ht.below (bT hb1 (bA hW _))).mono (bT hb1 (bA hW _)).size) (lit2 _ _ (Below.refl _ _))
  have hlev : ∀ W g, RowAt W g T.W M → Calls Try.prog 62 #[.pointer (some ⟨g, 0, none⟩), .int .i64 ((u : Int) + 1), .int .i64 ((v : Int) + 1)] W fun e w' => e = .returned (.agg #[.int .i64 y1, .int .i64 y2]) ∧ Below W.heap.size W w' := fun W g hr => by
    have := differ_any T.W M g (u + 1) (v + 1) W (by omega) (by omega) hr
    rwa [hy] at this
  rw [hy]
  have u0 : (u : Int) ≤ 6 := by omega
  have v0 : (v : Int) ≤ 6 := by omega
  have HL := Lib.hid hlearn; have HV := Lib.hid hlev; have HB1 := Lib.hid hb1
  clear hlearn hlev hb1 hz1 ht hok hk ha hy
  go_enter Try.func33, Try.ntmps33
  go_wp2_with (first
    | (go_at_call 58; refine (HL.out _ _ _ (by simp) (by repeat (first | exact Below.refl _ _ | refine bA ?_ _))).mono ?_; rintro e w2 ⟨rfl, hb2⟩; have HB2 := Lib.hid (bT (by repeat (first | exact Below.refl _ _ | refine bA ?_ _) : Below w1.heap.size w1 _) hb2); have hl2 : w1.heap.size + 1 < w2.heap.size := (by have := hb2.size; simp at this; omega); have r0 : w2.cell? ⟨w1.heap.size, 0, none⟩ = some (.int .i64 0) := (hb2.cell (by simp; try omega)).trans (by go_simp); have r1 : w2.cell? ⟨w1.heap.size, 1, none⟩ = some (.int .i64 0) := (hb2.cell (by simp; try omega)).trans (by go_simp); have f0 : ∀ i, w2.frozen? ⟨w1.heap.size, i, none⟩ = false := (fun i => (hb2.frozen (by simp; try omega)).trans (by go_simp)); clear hb2)
    | (refine wpList_alloc_kv rfl rfl ?_; intro w3 hr3 hb3 hz3; have HR3 := Lib.hid hr3; have HB3 := Lib.hid hb3; have HZ3 := Lib.hid hz3; clear hr3 hb3 hz3)
    | (refine wpList_store_kv rfl _ _ rfl _ T.W 0 M Z49 rfl rfl hM HR3.out ?_; intro w4 hr4 ho4; have HR4 := Lib.hid hr4; have HB4 := Lib.hid (only_below HB3.out ho4 (Nat.le_refl _)); clear hr4 ho4)
    | (go_at_call 63; refine (point_ex _ _ (by omega) (by omega)).mono ?_; rintro e w2 ⟨rfl, rfl⟩)
    | (go_at_call 62; refine (HV.out _ _ HR4.out).mono ?_; rintro e w5 ⟨rfl, hb5⟩; have HB5 := Lib.hid (bT HB4.out hb5); have s0 := (HB5.out.cell (p := ⟨w1.heap.size, 0, none⟩) (by simp; omega)).trans r0; have s1 := (HB5.out.cell (p := ⟨w1.heap.size, 1, none⟩) (by simp; omega)).trans r1; have g0 : ∀ i, w5.frozen? ⟨w1.heap.size, i, none⟩ = false := (fun i => (HB5.out.frozen (by simp; omega)).trans (f0 i)); clear hb5))
  exact bodyPost_ret (v := .tuple #[.agg #[.int .i64 y1, .int .i64 y2], .int .i64 0]) (by simp [results, Try.results33, go_sem, s0, s1]) rfl ⟨rfl, bS (bS (bT (bT HB1.out HB2.out) HB5.out) (by simp; omega) _) (by simp; omega) _⟩

theorem info3 : (Try.prog.info? 3).map (fun i => (i.zero, i.size, i.bytes)) = some (some (.int .i64 0), 1, 8) := by kernel_rfl
theorem learn_nil (T : Town) (M : List Int) (p q : Option Addr) (c d : Nat) (w : World) (hok : T.ok = true) (hk : kn T = some M) (ht : TownIn w w.heap.size T p q) :
    Calls Try.prog 58 #[.agg #[.int .i64 T.W, .slice p T.s.length c, .slice q T.r.length d], .slice none 0 0] w fun e w' =>
      e = .returned (.tuple #[.agg (kv T.W M), .int .i64 0]) ∧ Below w.heap.size w w' :=
  learn_ok T M p q c d [] none 0 w hok hk rfl (by simp) ht (fun h => by simp at h)

set_option maxRecDepth 100000 in
set_option maxHeartbeats 2000000 in
theorem lowest_ok (T : Town) (M : List Int) (n : Nat) (p q : Option Addr) (c d : Nat) (w : World) (hok : T.ok = true) (hk : kn T = some M) (hn : T.W = n) (ht : TownIn w w.heap.size T p q) :
    Calls Try.prog 26 #[.agg #[.int .i64 T.W, .slice p T.s.length c, .slice q T.r.length d]] w fun e w' =>
      ∃ v, e = .returned (.tuple #[v, .int .i64 0]) ∧ w'.ownsRow w.heap.size 3 1 v n ((lv M n).map fun x => .int .i64 x.1) ∧ Below w.heap.size w w' := by
  obtain ⟨w1, hw1, hb1, hz1, k0, k1, k2⟩ := box_town w T.W p q T.s.length T.r.length c d
  obtain ⟨i0, hi, hz0, hz1', hz2⟩ := info_parts info3
  have I1 := Lib.hid hi; have I2 := Lib.hid hz0; have I3 := Lib.hid hz1'; have I4 := Lib.hid hz2; clear hi hz0 hz1' hz2
  have hl1 : w.heap.size < w1.heap.size := by omega
  have hM : M.length = 49 := hTo_len hk
  have hW := ok_W hok
  have hn6 : n ≤ 6 := by omega
  have hlearn := learn_nil T M p q c d w1 hok hk ((ht.below hb1).mono hb1.size)
  have hlev : ∀ W g, RowAt W g T.W M → Calls Try.prog 61 #[.pointer (some ⟨g, 0, none⟩)] W fun e w' => ∃ v, e = .returned v ∧ w'.ownsRow W.heap.size 38 2 v n (flat2 (lv M n)) ∧ Below W.heap.size W w' := fun W g hr => levels_any n M g W hn6 (by rw [← hn]; exact hr)
  have HL := Lib.hid hlearn; have HV := Lib.hid hlev; have HB1 := Lib.hid hb1
  clear hlearn hlev hb1 hz1 ht hok hk hn
  go_enter Try.func26, Try.ntmps26
  go_wp2_with (first
    | (go_at_call 58; refine HL.out.mono ?_; rintro e w2 ⟨rfl, hb2⟩; have HB2 := Lib.hid hb2; clear hb2)
    | (refine wpList_alloc_kv rfl rfl ?_; intro w3 hr3 hb3 hz3; have HR3 := Lib.hid hr3; have HB3 := Lib.hid hb3; have HZ3 := Lib.hid hz3; clear hr3 hb3 hz3)
    | (refine wpList_store_kv rfl _ _ rfl _ T.W 0 M Z49 rfl rfl hM HR3.out ?_; intro w4 hr4 ho4; have HR4 := Lib.hid hr4; have HB4 := Lib.hid (only_below HB3.out ho4 (Nat.le_refl _)); clear hr4 ho4)
    | (go_at_call 61; refine (HV.out _ _ HR4.out).mono ?_; rintro e w5 ⟨vv, rfl, ho5, hb5⟩; have HO5 := Lib.hid ho5; have HB5 := Lib.hid (bT (bT HB2.out HB4.out) hb5); clear ho5 hb5; obtain ⟨pv, cv, rfl, hc5⟩ := own_form HO5.out; have HC5 := Lib.hid hc5; clear hc5))
  go_loopw [6, 19] (fun v i wr => ∃ k : Nat, i = .int .i64 k ∧ k ≤ n ∧ wr.ownsRow w5.heap.size 3 1 v k ((lv M k).map fun x => .int .i64 x.1) ∧ Below w5.heap.size w5 wr) (fun _ i _ => n - (intOf i).toNat)
  case atStart => exact ⟨0, rfl, Nat.zero_le _, World.ownsRow_nil _ _ _ _, Below.refl _ _⟩
  case round =>
    obtain ⟨k, rfl, hk, ho, hb⟩ := hrel
    have HO := Lib.hid ho; have HB := Lib.hid hb; clear ho hb
    obtain ⟨p1, cap1, rfl, _⟩ := own_form HO.out
    by_cases hlt : k < n
    · obtain ⟨gg, rfl, _, hlt2, hcell⟩ := HC5.out (by omega)
      obtain ⟨f1, f2⟩ := flat2_at (lv M n) k (by rw [lv_len]; exact hlt)
      have e1 := ((HB.out.cell (p := ⟨gg, k * 2, none⟩) hlt2).trans (hcell _ (by omega))).trans f1
      have e2 := ((HB.out.cell (p := ⟨gg, k * 2 + 1, none⟩) hlt2).trans (hcell _ (by omega))).trans f2
      have hd : (lv M n)[k]'(by rw [lv_len]; exact hlt) = dif M 0 (k + 1) := by simp [lv]
      rw [hd] at e1 e2
      obtain ⟨⟨y1, y2⟩, hy⟩ : ∃ y, dif M 0 (k + 1) = y := ⟨_, rfl⟩
      rw [hy] at e1 e2
      have HY := Lib.hid hy
      have hsz := HB.out.size
      clear hcell f1 f2 hd hy HC5
      go_wp2_with (at_builtin; refine wpList_append_own _ rfl _ _ 26 rfl w5.heap.size 3 i0 _ 1 8 Try.underlying26 I1.out I2.out I3.out I4.out rfl (by decide) _ _ _ rfl ((HO.out.alloc _).alloc _) ⟨wr.heap.size + 1, 0, none⟩ 1 1 [.int .i64 y1] rfl rfl ?c1 ?c2 ?c3 ?c4 ?c5 ?_)
      case c2 => simp [Value.oneCell']
      case c3 => unfold maxLen; omega
      case c4 => omega
      case c5 => first | omega | (simp; omega)
      intro v' w6 hown hgrow _
      have HOW := Lib.hid hown; have HGR := Lib.hid hgrow; clear hown hgrow
      obtain ⟨p', cap', rfl, _⟩ := own_form HOW.out
      go_wp2
      go_roundw
      case rel =>
        refine ⟨k + 1, by go_num, hlt, ?_, below_grown (bA (bA HB.out _) _) ((HO.out.alloc _).alloc _) (Nat.le_refl _) HGR.out⟩
        rw [lv_succ, List.map_append, HY.out]
        exact HOW.out
      case measure => simp [intOf]; omega
    · obtain rfl : k = n := by omega
      go_wp2
      go_ret2
      exact ⟨_, rfl, own_base HO.out (by have := HB5.out.size; omega), bT (bT HB1.out HB5.out) HB.out⟩
end Go.Proofs.Ytmfbfcknnjbabaa
