/- The contracts of the specification's Differ and Higher, for any town. Made by m7.py. -/
import Derived.Test.YtmfbfcknnjbabaaM4
import Derived.Test.YtmfbfcknnjbabaaL6
import Derived.Test.YtmfbfcknnjbabaaX2
set_option linter.unusedSimpArgs false
set_option linter.unusedVariables false
namespace Go.Proofs.Ytmfbfcknnjbabaa
open Go.RowKit

/-- what Differ returns: the span, the error -/
def dres (T : Town) (a b : Int) : (Int × Int) × Int :=
  let k := kres T (within a 0 (wrap64 (T.W - 1)) && within b 0 (wrap64 (T.W - 1)))
  if k.2 = 0 then (dif ((kn T).getD []) (a.toNat + 1) (b.toNat + 1), 0) else ((0, 0), k.2)
theorem fin_snd {T : Town} {y : Snd} (hok : T.ok = true) (h : sOk T.W y = true) : (T.snd y).fin = true := by
  simp only [Town.ok, Town.fin, Town.snd, Bool.and_eq_true, decide_eq_true_eq, List.all_append, List.length_append, List.length_cons, List.length_nil, List.all_cons, List.all_nil, Bool.and_true] at hok ⊢
  obtain ⟨h1, h2, h3, h4, h5⟩ := hok
  exact ⟨h1, by simp; omega, decide_eq_true (by omega), ⟨h4, h⟩, h5⟩
theorem truth_snd {T : Town} {u : Nat} {z : Int} (xs : List Int) : truth (T.snd ⟨u, z, z⟩) xs = true ↔ (truth T xs = true ∧ at0 xs u = z) := by
  simp only [truth, Town.snd, Bool.and_eq_true, List.all_append, List.all_cons, List.all_nil, Bool.and_true]
  have e : okS xs ⟨u, z, z⟩ = true ↔ at0 xs u = z := by simp only [okS, within, decide_eq_true_eq]; omega
  rw [e]
  constructor
  · rintro ⟨a, b, ⟨c, d⟩, f⟩; exact ⟨⟨a, b, c, f⟩, d⟩
  · rintro ⟨⟨a, b, c, f⟩, d⟩; exact ⟨a, b, ⟨c, d⟩, f⟩
theorem truth_dif {T : Town} {M : List Int} (hok : T.ok = true) (hk : kn T = some M) {u v : Nat} (hu : (u : Int) < T.W) (hv : (v : Int) < T.W) {xs : List Int} (h : truth T xs = true) : -D M (v + 1) (u + 1) ≤ at0 xs v - at0 xs u ∧ at0 xs v - at0 xs u ≤ D M (u + 1) (v + 1) := by
  have hW := ok_W hok
  have f := ((truth_fits hok hk).1 h).2
  have a := f (u + 1) (v + 1) (by omega) (by omega)
  have b := f (v + 1) (u + 1) (by omega) (by omega)
  rw [lev_succ, lev_succ] at a b
  omega
theorem lvl_at (n : Nat) (x : Nat → Int) (i : Nat) (h : i < n) : at0 (lvl n x) i = x (i + 1) := by simp [at0, lvl, h]
theorem hit_truth {T : Town} {M : List Int} {n : Nat} (hok : T.ok = true) (hk : kn T = some M) (hn : T.W = n) {u v : Nat} (hu : u < n) (hv : v < n) {z : Int} (h0 : -D M (v + 1) (u + 1) ≤ z) (h1 : z ≤ D M (u + 1) (v + 1)) : ∃ xs, truth T xs = true ∧ at0 xs v - at0 xs u = z := by
  have hW := ok_W hok
  obtain ⟨x, fx, x0, e⟩ := hit (kn_clo hok hk) (f := u + 1) (t := v + 1) (by omega) (by omega) h0 h1
  exact ⟨lvl n x, lvl_truth hok hk hn x0 fx, by rw [lvl_at _ _ _ hv, lvl_at _ _ _ hu]; exact e⟩
theorem hit_level {T : Town} {M : List Int} {n : Nat} (hok : T.ok = true) (hk : kn T = some M) (hn : T.W = n) {u : Nat} (hu : u < n) {z : Int} (h0 : -D M (u + 1) 0 ≤ z) (h1 : z ≤ D M 0 (u + 1)) : ∃ xs, truth T xs = true ∧ at0 xs u = z := by
  have hW := ok_W hok
  obtain ⟨x, fx, x0, e⟩ := hit (kn_clo hok hk) (f := 0) (t := u + 1) (by omega) (by omega) h0 h1
  exact ⟨lvl n x, lvl_truth hok hk hn x0 fx, by rw [lvl_at _ _ _ hu]; omega⟩
/-- what is so of the span when all levels below z were tried -/
def OutI (T : Town) (M : List Int) (u v : Nat) (z O0 O1 : Int) : Prop := -D M (v + 1) (u + 1) ≤ O0 ∧ O1 ≤ D M (u + 1) (v + 1) ∧ ∀ xs, truth T xs = true → at0 xs u < z → O0 ≤ at0 xs v - at0 xs u ∧ at0 xs v - at0 xs u ≤ O1
theorem outI_start {T : Town} {M : List Int} {n u v : Nat} (hok : T.ok = true) (hk : kn T = some M) (hn : T.W = n) (hu : u < n) (hv : v < n) : OutI T M u v (-D M (u + 1) 0) 100 (-100) := by
  have hW := ok_W hok
  have hM := kn_clo hok hk
  have a := hM.ge (p := v + 1) (q := u + 1) (by omega) (by omega)
  have b := hM.ge (p := u + 1) (q := v + 1) (by omega) (by omega)
  refine ⟨by omega, by omega, fun xs h hz => ?_⟩
  have f := ((truth_fits hok hk).1 h).2 (u + 1) 0 (by omega) (by omega)
  rw [lev_zero, lev_succ] at f
  omega
theorem outI_step {T : Town} {M : List Int} {n u v : Nat} {z O0 O1 m0 m1 : Int} {L : List (Int × Int)} (hok : T.ok = true) (hk : kn T = some M) (hn : T.W = n) (hu : u < n) (hv : v < n) (hL : L.length = n) (h : OutI T M u v z O0 O1)
    (hE : Enc (T.snd ⟨u, z, z⟩) L) (t1 : truth (T.snd ⟨u, z, z⟩) (L.map fun x => x.1) = true) (t2 : truth (T.snd ⟨u, z, z⟩) (L.map fun x => x.2) = true)
    (h0 : (if (sp L v).1 - z < O0 then (sp L v).1 - z else O0) = m0) (h1 : (if O1 < (sp L v).2 - z then (sp L v).2 - z else O1) = m1) : OutI T M u v (z + 1) m0 m1 := by
  obtain ⟨a, b, c⟩ := h
  obtain ⟨r1, r2⟩ := (truth_snd _).1 t1
  obtain ⟨s1, s2⟩ := (truth_snd _).1 t2
  have d1 := truth_dif hok hk (u := u) (v := v) (by omega) (by omega) r1
  have d2 := truth_dif hok hk (u := u) (v := v) (by omega) (by omega) s1
  rw [r2, firsts_at _ _ _ (by omega)] at d1
  rw [s2, firsts_at _ _ _ (by omega)] at d2
  have e0 : m0 ≤ O0 ∧ m0 ≤ (sp L v).1 - z ∧ (m0 = O0 ∨ m0 = (sp L v).1 - z) := by
    rw [← h0]; split <;> omega
  have e1 : O1 ≤ m1 ∧ (sp L v).2 - z ≤ m1 ∧ (m1 = O1 ∨ m1 = (sp L v).2 - z) := by
    rw [← h1]; split <;> omega
  refine ⟨by omega, by omega, fun xs hx hz => ?_⟩
  by_cases q : at0 xs u < z
  · have := c xs hx q; omega
  · have qe : at0 xs u = z := by omega
    have := hE xs ((truth_snd xs).2 ⟨hx, qe⟩) v (by omega)
    omega
theorem outI_end {T : Town} {M : List Int} {n u v : Nat} {z O0 O1 : Int} (hok : T.ok = true) (hk : kn T = some M) (hn : T.W = n) (hu : u < n) (hv : v < n) (h : OutI T M u v z O0 O1) (hz : D M 0 (u + 1) < z) : O0 = -D M (v + 1) (u + 1) ∧ O1 = D M (u + 1) (v + 1) := by
  have hW := ok_W hok
  have hM := kn_clo hok hk
  have hle := clo_le hM (p := u + 1) (q := v + 1) (by omega) (by omega)
  obtain ⟨a, b, c⟩ := h
  have hall : ∀ xs, truth T xs = true → at0 xs u < z := fun xs hx => by
    have f := ((truth_fits hok hk).1 hx).2 0 (u + 1) (by omega) (by omega)
    rw [lev_zero, lev_succ] at f
    omega
  obtain ⟨xs, hx, ex⟩ := hit_truth hok hk hn hu hv (z := -D M (v + 1) (u + 1)) (Int.le_refl _) hle
  obtain ⟨ys, hy, ey⟩ := hit_truth hok hk hn hu hv (z := D M (u + 1) (v + 1)) hle (Int.le_refl _)
  have c1 := c xs hx (hall xs hx)
  have c2 := c ys hy (hall ys hy)
  omega

theorem kres_er0 {T : Town} {b : Bool} (h : (kres T b).2 ≠ 0) : (kres T b).1 = [] := by
  unfold kres at *
  cases hok : T.ok with
  | false => simp
  | true =>
    cases b with
    | false => simp
    | true =>
      cases hk : kn T with
      | none => simp
      | some M => simp [hok, hk] at h

set_option maxRecDepth 100000 in
set_option maxHeartbeats 4000000 in
theorem differR_er (T : Town) (a b er : Int) (p q : Option Addr) (c d : Nat) (w : World) (hs : T.s.length ≤ 1000000) (hr : T.r.length ≤ 1000000) (ht : TownIn w w.heap.size T p q)
    (he : (kres T (within a 0 (wrap64 (T.W - 1)) && within b 0 (wrap64 (T.W - 1)))).2 = er) (hn : er ≠ 0) :
    Calls Try.prog 34 #[.agg #[.int .i64 T.W, .slice p T.s.length c, .slice q T.r.length d], .int .i64 a, .int .i64 b] w fun e w' => e = .returned (.tuple #[.agg #[.int .i64 0, .int .i64 0], .int .i64 er]) ∧ Below w.heap.size w w' := by
  obtain ⟨w1, hw1, hb1, hz1, k0, k1, k2⟩ := box_town w T.W p q T.s.length T.r.length c d
  have hl1 : w.heap.size < w1.heap.size := by omega
  obtain ⟨w2, hw2⟩ : ∃ w2, w1.alloc (Obj.cells #[Value.int IntKind.i64 0, Value.int IntKind.i64 0] 38) = w2 := ⟨_, rfl⟩
  have hb2 : Below w1.heap.size w1 w2 := by rw [← hw2]; exact bA (Below.refl _ _) _
  have hr2 : w2.heap[w1.heap.size]? = some (.cells #[Value.int IntKind.i64 0, Value.int IntKind.i64 0] 38 (0, 0)) := by rw [← hw2]; exact heap_alloc_new _ _
  have m0 := (hb2.cell (p := ⟨w.heap.size, 0, none⟩) hl1).trans k0
  have m1 := (hb2.cell (p := ⟨w.heap.size, 1, none⟩) hl1).trans k1
  have m2 := (hb2.cell (p := ⟨w.heap.size, 2, none⟩) hl1).trans k2
  have hl2 : w.heap.size < w2.heap.size := by have := hb2.size; omega
  have hl3 : w1.heap.size < w2.heap.size := (Array.getElem?_eq_some_iff.1 hr2).1
  have f0 : (er != 0) = true := by simpa using hn
  have hwa := fun V => isWell_w T.W a (.slice p T.s.length c) (.slice q T.r.length d) V
  have hwb := fun V => isWell_w T.W b (.slice p T.s.length c) (.slice q T.r.length d) V
  obtain ⟨ba, hba⟩ : ∃ z, within a 0 (wrap64 (T.W - 1)) = z := ⟨_, rfl⟩
  obtain ⟨bb, hbb⟩ : ∃ z, within b 0 (wrap64 (T.W - 1)) = z := ⟨_, rfl⟩
  rw [hba] at hwa he
  rw [hbb] at hwb he
  have hk := fun (V : World) (hV : Below w2.heap.size w2 V) => known_any T (ba && bb) p q c d V hs hr (ht.bel (bT (bT hb1 hb2) hV))
  unfold KnownPost at hk
  rw [kres_er0 (by rw [he]; exact hn), he] at hk
  have HB2 := Lib.hid (bT hb1 hb2); have HR2 := Lib.hid hr2
  cases ba with
  | false =>
    rw [Bool.false_and] at hk
    have HK := Lib.hid hk; have HA := Lib.hid hwa
    clear hk hwa hwb hb1 hb2 hz1 ht hba hbb he hn hr2 k0 k1 k2 hs hr
    go_enter Try.func34, Try.ntmps34
    go_wp2
    clear hw1 hw2
    refine wp_region_last (fun w' => w'.cell? ⟨w.heap.size, 0, none⟩ = some (.int .i64 T.W) ∧ w'.cell? ⟨w.heap.size, 1, none⟩ = some (.slice p T.s.length c) ∧ w'.cell? ⟨w.heap.size, 2, none⟩ = some (.slice q T.r.length d)) 14 (by kernel_rfl) rfl (⟨m0, m1, m2⟩) (fun hHeld => ?_)
    refine wpAnyG_take (i := 0) (v := ?_) (by kernel_rfl) rfl (by kernel_rfl) (by kernel_rfl) (by kernel_rfl) (fun _ _ _ h => h) (Or.inl ⟨by rfl, ?_⟩) (by assumption) ?_
    rotate_left
    · intro wS hSw
      (try dsimp only at hSw)
      go_simp
      try (with_reducible rfl)
    try simp only [Act.put, List.setIfInBounds_toArray, List.set_cons_zero, List.set_cons_succ]
    refine wpAnyG_take (i := 1) (v := ?_) (by kernel_rfl) rfl (by kernel_rfl) (by kernel_rfl) (by kernel_rfl) (fun _ _ _ h => h) (Or.inl ⟨by rfl, ?_⟩) (by assumption) ?_
    rotate_left
    · intro wS hSw
      (try dsimp only at hSw)
      go_simp
      try (with_reducible rfl)
    try simp only [Act.put, List.setIfInBounds_toArray, List.set_cons_zero, List.set_cons_succ]
    refine wpAnyG_take (i := 2) (v := ?_) (by kernel_rfl) rfl (by kernel_rfl) (by kernel_rfl) (by kernel_rfl) (fun _ _ _ h => h) (Or.inl ⟨by rfl, ?_⟩) (by assumption) ?_
    rotate_left
    · intro wS hSw
      (try dsimp only at hSw)
      go_simp
      try (with_reducible rfl)
    try simp only [Act.put, List.setIfInBounds_toArray, List.set_cons_zero, List.set_cons_succ]
    refine wpAnyG_one (i := 3) (by kernel_rfl) (by decide) (wpOp_plain rfl rfl ?_)
    go_simp
    go_at_call 48
    refine (HA.out _).mono ?_
    rintro e w3 ⟨rfl, hb3⟩
    have hB3 : Below w2.heap.size w2 w3 := bT (bd (Below.refl _ _)) hb3
    have hH : (fun w' => w'.cell? ⟨w.heap.size, 0, none⟩ = some (.int .i64 T.W) ∧ w'.cell? ⟨w.heap.size, 1, none⟩ = some (.slice p T.s.length c) ∧ w'.cell? ⟨w.heap.size, 2, none⟩ = some (.slice q T.r.length d)) w3 := ⟨(hB3.cell (p := ⟨w.heap.size, 0, none⟩) hl2).trans m0, (hB3.cell (p := ⟨w.heap.size, 1, none⟩) hl2).trans m1, (hB3.cell (p := ⟨w.heap.size, 2, none⟩) hl2).trans m2⟩
    refine ⟨hH, ?_⟩
    try simp only [Act.put, List.setIfInBounds_toArray, List.set_cons_zero, List.set_cons_succ]
    clear hHeld
    clear hb3
    refine wpAnyG_take (i := 4) (v := ?_) (by kernel_rfl) rfl (by kernel_rfl) (by kernel_rfl) (by kernel_rfl) (fun _ _ _ h => h) (Or.inl ⟨by rfl, ?_⟩) (by assumption) ?_
    rotate_left
    · intro wS hSw
      (try dsimp only at hSw)
      go_simp
      try (with_reducible rfl)
    try simp only [Act.put, List.setIfInBounds_toArray, List.set_cons_zero, List.set_cons_succ]
    refine wpAnyG_take (i := 5) (v := undef) (by kernel_rfl) rfl (by kernel_rfl) (by kernel_rfl) (by kernel_rfl) (fun _ _ _ h => h) (Or.inr ⟨by rfl, rfl⟩) (by assumption) ?_
    try simp only [Act.put, List.setIfInBounds_toArray, List.set_cons_zero, List.set_cons_succ]
    refine wpAnyG_take (i := 6) (v := undef) (by kernel_rfl) rfl (by kernel_rfl) (by kernel_rfl) (by kernel_rfl) (fun _ _ _ h => h) (Or.inr ⟨by rfl, rfl⟩) (by assumption) ?_
    try simp only [Act.put, List.setIfInBounds_toArray, List.set_cons_zero, List.set_cons_succ]
    refine wpAnyG_take (i := 7) (v := undef) (by kernel_rfl) rfl (by kernel_rfl) (by kernel_rfl) (by kernel_rfl) (fun _ _ _ h => h) (Or.inr ⟨by rfl, rfl⟩) (by assumption) ?_
    try simp only [Act.put, List.setIfInBounds_toArray, List.set_cons_zero, List.set_cons_succ]
    refine wpAnyG_take (i := 8) (v := ?_) (by kernel_rfl) rfl (by kernel_rfl) (by kernel_rfl) (by kernel_rfl) (fun _ _ _ h => h) (Or.inl ⟨by rfl, ?_⟩) (by assumption) ?_
    rotate_left
    · intro wS hSw
      (try dsimp only at hSw)
      go_simp
      try (with_reducible rfl)
    try simp only [Act.put, List.setIfInBounds_toArray, List.set_cons_zero, List.set_cons_succ]
    refine wpAnyG_one (i := 9) (by kernel_rfl) (by decide) (wpOp_plain rfl rfl ?_)
    go_simp
    go_at_call 60
    refine (HK.out _ (by repeat (first | assumption | exact Below.refl _ _ | refine bd ?_ | refine bD ?_ _))).mono ?_
    rintro e w4 ⟨p4, c4, rfl, hi4, hb4⟩
    have hB4 : Below w2.heap.size w2 w4 := bT hB3 hb4
    have d0 := (hB4.cell (p := ⟨w.heap.size, 0, none⟩) hl2).trans m0
    have d1 := (hB4.cell (p := ⟨w.heap.size, 1, none⟩) hl2).trans m1
    have d2 := (hB4.cell (p := ⟨w.heap.size, 2, none⟩) hl2).trans m2
    have hH4 : (fun w' => w'.cell? ⟨w.heap.size, 0, none⟩ = some (.int .i64 T.W) ∧ w'.cell? ⟨w.heap.size, 1, none⟩ = some (.slice p T.s.length c) ∧ w'.cell? ⟨w.heap.size, 2, none⟩ = some (.slice q T.r.length d)) w4 := ⟨d0, d1, d2⟩
    refine ⟨hH4, ?_⟩
    try simp only [Act.put, List.setIfInBounds_toArray, List.set_cons_zero, List.set_cons_succ]

    clear hb4 hi4
    refine wpAnyG_take (i := 10) (v := ?_) (by kernel_rfl) rfl (by kernel_rfl) (by kernel_rfl) (by kernel_rfl) (fun _ _ _ h => h) (Or.inl ⟨by rfl, ?_⟩) (by assumption) ?_
    rotate_left
    · intro wS hSw
      (try dsimp only at hSw)
      go_simp
      try (with_reducible rfl)
    try simp only [Act.put, List.setIfInBounds_toArray, List.set_cons_zero, List.set_cons_succ]
    refine wpAnyG_take (i := 11) (v := ?_) (by kernel_rfl) rfl (by kernel_rfl) (by kernel_rfl) (by kernel_rfl) (fun _ _ _ h => h) (Or.inl ⟨by rfl, ?_⟩) (by assumption) ?_
    rotate_left
    · intro wS hSw
      (try dsimp only at hSw)
      go_simp
      try (with_reducible rfl)
    try simp only [Act.put, List.setIfInBounds_toArray, List.set_cons_zero, List.set_cons_succ]
    refine wpAnyG_take (i := 12) (v := ?_) (by kernel_rfl) rfl (by kernel_rfl) (by kernel_rfl) (by kernel_rfl) (fun _ _ _ h => h) (Or.inl ⟨by rfl, ?_⟩) (by assumption) ?_
    rotate_left
    · intro wS hSw
      (try dsimp only at hSw)
      go_simp
      try (with_reducible rfl)
    try simp only [Act.put, List.setIfInBounds_toArray, List.set_cons_zero, List.set_cons_succ]
    refine wpAnyG_take (i := 13) (v := ?_) (by kernel_rfl) rfl (by kernel_rfl) (by kernel_rfl) (by kernel_rfl) (fun _ _ _ h => h) (Or.inl ⟨by rfl, ?_⟩) (by assumption) ?_
    rotate_left
    · intro wS hSw
      (try dsimp only at hSw)
      go_simp
      try (with_reducible rfl)
    try simp only [Act.put, List.setIfInBounds_toArray, List.set_cons_zero, List.set_cons_succ]
    refine wpAnyG_done (by kernel_rfl) (by kernel_rfl) (wpOp_plain rfl rfl ?_)
    go_simp
    have hr4 := (hB4.block _ hl3).trans HR2.out
    have s0 := cell_of_row w4 w1.heap.size 0 _ _ _ hr4
    have s1 := cell_of_row w4 w1.heap.size 1 _ _ _ hr4
    simp only [List.getElem?_toArray, List.getElem?_cons_zero, List.getElem?_cons_succ] at s0 s1
    have g0 : ∀ i, w4.frozen? ⟨w1.heap.size, i, none⟩ = false := fun i => by simp [World.frozen?, hr4]
    have HB4 := Lib.hid (bT HB2.out hB4)
    have hz4 : w.heap.size ≤ w1.heap.size := by omega
    clear hr4 hB4 d0 d1 d2
    go_wp2
    exact bodyPost_ret (v := .tuple #[.agg #[.int .i64 0, .int .i64 0], .int .i64 er]) (by simp [results, Try.results34, go_sem, s0, s1]) rfl ⟨rfl, bS (bS HB4.out (by dsimp only; omega) _) (by dsimp only; omega) _⟩
  | true =>
    rw [Bool.true_and] at hk
    have HK := Lib.hid hk; have HA := Lib.hid hwa; have HB := Lib.hid hwb
    clear hk hwa hwb hb1 hb2 hz1 ht hba hbb he hn hr2 k0 k1 k2 hs hr
    go_enter Try.func34, Try.ntmps34
    go_wp2
    clear hw1 hw2
    go_region_held3 (fun w' => w'.cell? ⟨w.heap.size, 0, none⟩ = some (.int .i64 T.W) ∧ w'.cell? ⟨w.heap.size, 1, none⟩ = some (.slice p T.s.length c) ∧ w'.cell? ⟨w.heap.size, 2, none⟩ = some (.slice q T.r.length d))
      (first | go_keep | exact ⟨d0, d1, d2⟩)
      (first
        | (go_at_call 48; refine (HA.out _).mono ?_; rintro e w3 ⟨rfl, hb3⟩; go_must (have hB3 : Below w2.heap.size w2 w3 := bT (by repeat (first | assumption | exact Below.refl _ _ | refine bd ?_ | refine bD ?_ _)) hb3; have d0 := (hB3.cell (p := ⟨w.heap.size, 0, none⟩) hl2).trans m0; have d1 := (hB3.cell (p := ⟨w.heap.size, 1, none⟩) hl2).trans m1; have d2 := (hB3.cell (p := ⟨w.heap.size, 2, none⟩) hl2).trans m2; clear hb3))
        | (go_at_call 48; refine (HB.out _).mono ?_; rintro e w3 ⟨rfl, hb3⟩; go_must (have hB3 : Below w2.heap.size w2 w3 := bT (by repeat (first | assumption | exact Below.refl _ _ | refine bd ?_ | refine bD ?_ _)) hb3; have d0 := (hB3.cell (p := ⟨w.heap.size, 0, none⟩) hl2).trans m0; have d1 := (hB3.cell (p := ⟨w.heap.size, 1, none⟩) hl2).trans m1; have d2 := (hB3.cell (p := ⟨w.heap.size, 2, none⟩) hl2).trans m2; clear hb3))
        | (go_at_call 60; refine (HK.out _ (by repeat (first | assumption | exact Below.refl _ _ | refine bd ?_ | refine bD ?_ _))).mono ?_; rintro e w4 ⟨p4, c4, rfl, hi4, hb4⟩; go_must (have hB4 : Below w2.heap.size w2 w4 := bT (by repeat (first | assumption | exact Below.refl _ _ | refine bd ?_ | refine bD ?_ _)) hb4; have d0 := (hB4.cell (p := ⟨w.heap.size, 0, none⟩) hl2).trans m0; have d1 := (hB4.cell (p := ⟨w.heap.size, 1, none⟩) hl2).trans m1; have d2 := (hB4.cell (p := ⟨w.heap.size, 2, none⟩) hl2).trans m2; have HI4 := Lib.hid hi4; clear hb4 hi4)))
    have hr4 := (hB4.block _ hl3).trans HR2.out
    have s0 := cell_of_row w4 w1.heap.size 0 _ _ _ hr4
    have s1 := cell_of_row w4 w1.heap.size 1 _ _ _ hr4
    simp only [List.getElem?_toArray, List.getElem?_cons_zero, List.getElem?_cons_succ] at s0 s1
    have g0 : ∀ i, w4.frozen? ⟨w1.heap.size, i, none⟩ = false := fun i => by simp [World.frozen?, hr4]
    have HB4 := Lib.hid (bT HB2.out hB4)
    have hz4 : w.heap.size ≤ w1.heap.size := by omega
    clear hr4 hB4 d0 d1 d2
    go_wp2
    exact bodyPost_ret (v := .tuple #[.agg #[.int .i64 0, .int .i64 0], .int .i64 er]) (by simp [results, Try.results34, go_sem, s0, s1]) rfl ⟨rfl, bS (bS HB4.out (by dsimp only; omega) _) (by dsimp only; omega) _⟩
end Go.Proofs.Ytmfbfcknnjbabaa
