/- The contracts of Level, Lowest, Highest and Over of the program, for any town. -/
import Derived.Test.YtmfbfcknnjbabaaM4
set_option linter.unusedSimpArgs false
set_option linter.unusedVariables false
namespace Go.Proofs.Ytmfbfcknnjbabaa
open Go.RowKit

theorem lit_cells1g (w : World) (x : Value) (e : TypeId) {g : Nat} (hg : w.heap.size = g) : ∀ (j : Nat) (u : Value), [x][j]? = some u → (w.alloc (.cells #[x] e)).cell? ((⟨g, 0, none⟩ : Addr).add j) = some u := by
  subst hg; exact lit_cells1 w x e
theorem learn_er (T : Town) (er : Int) (p q : Option Addr) (c d : Nat) (xs : List Int) (x : Option Addr) (cx : Nat) (w : World) (hs : T.s.length ≤ 1000000) (hr : T.r.length ≤ 1000000) (h : learnt T xs = (0, Z49, er)) (hx : xs.length ≤ 1000) (ht : TownIn w w.heap.size T p q)
    (h1 : 0 < xs.length → ∃ b o, x = some ⟨b, o, none⟩ ∧ IntsAt w w.heap.size b o xs) :
    Calls Try.prog 58 #[.agg #[.int .i64 T.W, .slice p T.s.length c, .slice q T.r.length d], .slice x xs.length cx] w fun e w' =>
      e = .returned (.tuple #[.agg (kv 0 Z49), .int .i64 er]) ∧ Below w.heap.size w w' := by
  have h2 := learn_any T p q c d xs x cx w hs hr hx ht h1
  rw [h] at h2
  exact h2
theorem learnt_er {T : Town} {xs : List Int} (h : (kres T (asks T xs)).2 ≠ 0) : learnt T xs = (0, Z49, (kres T (asks T xs)).2) := by
  unfold learnt kres at *
  cases hok : T.ok with
  | false => simp
  | true =>
    cases ha : asks T xs with
    | false => simp
    | true =>
      cases hk : kn T with
      | none => simp
      | some M => simp [hok, ha, hk] at h
theorem kres_err {T : Town} {b : Bool} (h : (kres T b).2 ≠ 0) : (kres T b).1 = [] := by
  unfold kres at *
  cases hok : T.ok with
  | false => simp
  | true =>
    cases b with
    | false => simp
    | true =>
      cases hk : kn T with
      | none => simp
      | some M => simp [hok, hk] at h

set_option maxRecDepth 100000 in
set_option maxHeartbeats 2000000 in
theorem level_er (T : Town) (u er : Int) (p q : Option Addr) (c d : Nat) (w : World) (hs : T.s.length ≤ 1000000) (hr : T.r.length ≤ 1000000) (h : learnt T [u] = (0, Z49, er)) (f0 : (er != 0) = true) (ht : TownIn w w.heap.size T p q) :
    Calls Try.prog 24 #[.agg #[.int .i64 T.W, .slice p T.s.length c, .slice q T.r.length d], .int .i64 u] w fun e w' =>
      e = .returned (.tuple #[.agg #[.int .i64 0, .int .i64 0], .int .i64 er]) ∧ Below w.heap.size w w' := by
  obtain ⟨w1, hw1, hb1, hz1, k0, k1, k2⟩ := box_town w T.W p q T.s.length T.r.length c d
  have hl1 : w.heap.size < w1.heap.size := by omega
  have hlearn : ∀ W cx g, W.heap.size = g → Below w1.heap.size w1 W → Calls Try.prog 58 #[.agg #[.int .i64 T.W, .slice p T.s.length c, .slice q T.r.length d], .slice (some ⟨g, 0, none⟩) 1 cx] (W.alloc (.cells #[.int .i64 u] 3)) fun e w' =>
      e = .returned (.tuple #[.agg (kv 0 Z49), .int .i64 er]) ∧ Below (W.alloc (.cells #[.int .i64 u] 3)).heap.size (W.alloc (.cells #[.int .i64 u] 3)) w' := fun W cx g hg hW => by
    subst hg
    exact learn_er T er p q c d [u] _ cx _ hs hr h (by simp) ((ht.below (bT hb1 (bA hW _))).mono (bT hb1 (bA hW _)).size) (lit1 _ (Below.refl _ _))
  have HL := Lib.hid hlearn; have HB1 := Lib.hid hb1
  clear hlearn hb1 hz1 ht h hs hr
  go_enter Try.func24, Try.ntmps24
  go_wp2_with (first
    | (go_at_call 58; refine (HL.out _ _ _ (by simp) (by repeat (first | exact Below.refl _ _ | refine bA ?_ _))).mono ?_; rintro e w2 ⟨rfl, hb2⟩; have HB2 := Lib.hid (bT (by repeat (first | exact Below.refl _ _ | refine bA ?_ _) : Below w1.heap.size w1 _) hb2); have hl2 : w1.heap.size + 1 < w2.heap.size := (by have := hb2.size; simp at this; omega); have r0 : w2.cell? ⟨w1.heap.size, 0, none⟩ = some (.int .i64 0) := (hb2.cell (by simp; try omega)).trans (by go_simp); have r1 : w2.cell? ⟨w1.heap.size, 1, none⟩ = some (.int .i64 0) := (hb2.cell (by simp; try omega)).trans (by go_simp); have ff : ∀ i, w2.frozen? ⟨w1.heap.size, i, none⟩ = false := (fun i => (hb2.frozen (by simp; try omega)).trans (by go_simp)); clear hb2)
    | (refine wpList_alloc_kv rfl rfl ?_; intro w3 hr3 hb3 hz3; have HR3 := Lib.hid hr3; have HB3 := Lib.hid hb3; have HZ3 := Lib.hid hz3; clear hr3 hb3 hz3)
    | (refine wpList_store_kv rfl _ _ rfl _ 0 0 Z49 Z49 rfl rfl rfl HR3.out ?_; intro w4 hr4 ho4; go_must (have HB4 := Lib.hid (only_below HB3.out ho4 (Nat.le_refl _)); have s0 := (HB4.out.cell (p := ⟨w1.heap.size, 0, none⟩) (by simp; omega)).trans r0; have s1 := (HB4.out.cell (p := ⟨w1.heap.size, 1, none⟩) (by simp; omega)).trans r1; have g0 : ∀ i, w4.frozen? ⟨w1.heap.size, i, none⟩ = false := (fun i => (HB4.out.frozen (by simp; omega)).trans (ff i)); clear hr4 ho4)))
  exact bodyPost_ret (v := .tuple #[.agg #[.int .i64 0, .int .i64 0], .int .i64 er]) (by simp [results, Try.results24, go_sem, s0, s1]) rfl ⟨rfl, bS (bS (bT (bT HB1.out HB2.out) HB4.out) (by simp; omega) _) (by simp; omega) _⟩

set_option maxRecDepth 100000 in
set_option maxHeartbeats 2000000 in
theorem lowest_er (T : Town) (er : Int) (p q : Option Addr) (c d : Nat) (w : World) (hs : T.s.length ≤ 1000000) (hr : T.r.length ≤ 1000000) (h : learnt T [] = (0, Z49, er)) (f0 : (er != 0) = true) (ht : TownIn w w.heap.size T p q) :
    Calls Try.prog 26 #[.agg #[.int .i64 T.W, .slice p T.s.length c, .slice q T.r.length d]] w fun e w' => e = .returned (.tuple #[.slice none 0 0, .int .i64 er]) ∧ Below w.heap.size w w' := by
  obtain ⟨w1, hw1, hb1, hz1, k0, k1, k2⟩ := box_town w T.W p q T.s.length T.r.length c d
  have hl1 : w.heap.size < w1.heap.size := by omega
  have hlearn := learn_er T er p q c d [] none 0 w1 hs hr h (by simp) ((ht.below hb1).mono hb1.size) (fun h => by simp at h)
  have HL := Lib.hid hlearn; have HB1 := Lib.hid hb1
  clear hlearn hb1 hz1 ht h hs hr
  go_enter Try.func26, Try.ntmps26
  go_wp2_with (first
    | (go_at_call 58; refine HL.out.mono ?_; rintro e w2 ⟨rfl, hb2⟩; have HB2 := Lib.hid hb2; clear hb2)
    | (refine wpList_alloc_kv rfl rfl ?_; intro w3 hr3 hb3 hz3; have HR3 := Lib.hid hr3; have HB3 := Lib.hid hb3; have HZ3 := Lib.hid hz3; clear hr3 hb3 hz3)
    | (refine wpList_store_kv rfl _ _ rfl _ 0 0 Z49 Z49 rfl rfl rfl HR3.out ?_; intro w4 hr4 ho4; go_must (have HB4 := Lib.hid (only_below HB3.out ho4 (Nat.le_refl _)); clear hr4 ho4)))
  go_ret2
  exact ⟨rfl, bT (bT HB1.out HB2.out) HB4.out⟩

set_option maxRecDepth 100000 in
set_option maxHeartbeats 2000000 in
theorem highest_er (T : Town) (er : Int) (p q : Option Addr) (c d : Nat) (w : World) (hs : T.s.length ≤ 1000000) (hr : T.r.length ≤ 1000000) (h : learnt T [] = (0, Z49, er)) (f0 : (er != 0) = true) (ht : TownIn w w.heap.size T p q) :
    Calls Try.prog 28 #[.agg #[.int .i64 T.W, .slice p T.s.length c, .slice q T.r.length d]] w fun e w' => e = .returned (.tuple #[.slice none 0 0, .int .i64 er]) ∧ Below w.heap.size w w' := by
  obtain ⟨w1, hw1, hb1, hz1, k0, k1, k2⟩ := box_town w T.W p q T.s.length T.r.length c d
  have hl1 : w.heap.size < w1.heap.size := by omega
  have hlearn := learn_er T er p q c d [] none 0 w1 hs hr h (by simp) ((ht.below hb1).mono hb1.size) (fun h => by simp at h)
  have HL := Lib.hid hlearn; have HB1 := Lib.hid hb1
  clear hlearn hb1 hz1 ht h hs hr
  go_enter Try.func28, Try.ntmps28
  go_wp2_with (first
    | (go_at_call 58; refine HL.out.mono ?_; rintro e w2 ⟨rfl, hb2⟩; have HB2 := Lib.hid hb2; clear hb2)
    | (refine wpList_alloc_kv rfl rfl ?_; intro w3 hr3 hb3 hz3; have HR3 := Lib.hid hr3; have HB3 := Lib.hid hb3; have HZ3 := Lib.hid hz3; clear hr3 hb3 hz3)
    | (refine wpList_store_kv rfl _ _ rfl _ 0 0 Z49 Z49 rfl rfl rfl HR3.out ?_; intro w4 hr4 ho4; go_must (have HB4 := Lib.hid (only_below HB3.out ho4 (Nat.le_refl _)); clear hr4 ho4)))
  go_ret2
  exact ⟨rfl, bT (bT HB1.out HB2.out) HB4.out⟩

set_option maxRecDepth 100000 in
set_option maxHeartbeats 2000000 in
theorem over_er (T : Town) (er : Int) (lev : Int) (p q : Option Addr) (c d : Nat) (w : World) (hs : T.s.length ≤ 1000000) (hr : T.r.length ≤ 1000000) (h : learnt T [] = (0, Z49, er)) (f0 : (er != 0) = true) (ht : TownIn w w.heap.size T p q) :
    Calls Try.prog 30 #[.agg #[.int .i64 T.W, .slice p T.s.length c, .slice q T.r.length d], .int .i64 lev] w fun e w' => e = .returned (.tuple #[.slice none 0 0, .int .i64 er]) ∧ Below w.heap.size w w' := by
  obtain ⟨w1, hw1, hb1, hz1, k0, k1, k2⟩ := box_town w T.W p q T.s.length T.r.length c d
  have hl1 : w.heap.size < w1.heap.size := by omega
  have hlearn := learn_er T er p q c d [] none 0 w1 hs hr h (by simp) ((ht.below hb1).mono hb1.size) (fun h => by simp at h)
  have HL := Lib.hid hlearn; have HB1 := Lib.hid hb1
  clear hlearn hb1 hz1 ht h hs hr
  go_enter Try.func30, Try.ntmps30
  go_wp2_with (first
    | (go_at_call 58; refine HL.out.mono ?_; rintro e w2 ⟨rfl, hb2⟩; have HB2 := Lib.hid hb2; clear hb2)
    | (refine wpList_alloc_kv rfl rfl ?_; intro w3 hr3 hb3 hz3; have HR3 := Lib.hid hr3; have HB3 := Lib.hid hb3; have HZ3 := Lib.hid hz3; clear hr3 hb3 hz3)
    | (refine wpList_store_kv rfl _ _ rfl _ 0 0 Z49 Z49 rfl rfl rfl HR3.out ?_; intro w4 hr4 ho4; go_must (have HB4 := Lib.hid (only_below HB3.out ho4 (Nat.le_refl _)); clear hr4 ho4)))
  go_ret2
  exact ⟨rfl, bT (bT HB1.out HB2.out) HB4.out⟩

set_option maxRecDepth 100000 in
set_option maxHeartbeats 4000000 in
theorem over_ok (T : Town) (M : List Int) (n : Nat) (lev : Int) (p q : Option Addr) (c d : Nat) (w : World) (hok : T.ok = true) (hk : kn T = some M) (hn : T.W = n) (ht : TownIn w w.heap.size T p q) :
    Calls Try.prog 30 #[.agg #[.int .i64 T.W, .slice p T.s.length c, .slice q T.r.length d], .int .i64 lev] w fun e w' =>
      ∃ p' c', e = .returned (.tuple #[.slice p' (ovL (lv M n) lev n).length c', .int .i64 0]) ∧ Ints w' p' (ovL (lv M n) lev n) ∧ Below w.heap.size w w' := by
  obtain ⟨w1, hw1, hb1, hz1, k0, k1, k2⟩ := box_town w T.W p q T.s.length T.r.length c d
  obtain ⟨i0, hi, hz0, hz1', hz2⟩ := info_parts info3
  have I1 := Lib.hid hi; have I2 := Lib.hid hz0; have I3 := Lib.hid hz1'; have I4 := Lib.hid hz2; clear hi hz0 hz1' hz2
  have hl1 : w.heap.size < w1.heap.size := by omega
  have hM : M.length = 49 := hTo_len hk
  have hW := ok_W hok
  have hn6 : n ≤ 6 := by omega
  have hlearn := learn_nil T M p q c d w1 hok hk ((ht.below hb1).mono hb1.size)
  have hlev : ∀ W g, RowAt W g T.W M → Calls Try.prog 61 #[.pointer (some ⟨g, 0, none⟩)] W fun e w' => ∃ v, e = .returned v ∧ w'.ownsRow W.heap.size 38 2 v n (flat2 (lv M n)) ∧ Below W.heap.size W w' := fun W g hr => levels_any n M g W hn6 (by rw [← hn]; exact hr)
  obtain ⟨L, hL⟩ : ∃ L, lv M n = L := ⟨_, rfl⟩
  have hLn : L.length = n := by rw [← hL, lv_len]
  rw [hL] at hlev ⊢
  have HL := Lib.hid hlearn; have HV := Lib.hid hlev; have HB1 := Lib.hid hb1; have HLN := Lib.hid hLn
  clear hlearn hlev hb1 hz1 ht hok hk hn hL hLn
  go_enter Try.func30, Try.ntmps30
  go_wp2_with (first
    | (go_at_call 58; refine HL.out.mono ?_; rintro e w2 ⟨rfl, hb2⟩; have HB2 := Lib.hid hb2; clear hb2)
    | (refine wpList_alloc_kv rfl rfl ?_; intro w3 hr3 hb3 hz3; have HR3 := Lib.hid hr3; have HB3 := Lib.hid hb3; have HZ3 := Lib.hid hz3; clear hr3 hb3 hz3)
    | (refine wpList_store_kv rfl _ _ rfl _ T.W 0 M Z49 rfl rfl hM HR3.out ?_; intro w4 hr4 ho4; have HR4 := Lib.hid hr4; have HB4 := Lib.hid (only_below HB3.out ho4 (Nat.le_refl _)); clear hr4 ho4)
    | (go_at_call 61; refine (HV.out _ _ HR4.out).mono ?_; rintro e w5 ⟨vv, rfl, ho5, hb5⟩; have HO5 := Lib.hid ho5; have HB5 := Lib.hid (bT (bT HB2.out HB4.out) hb5); clear ho5 hb5; obtain ⟨pv, cv, rfl, hc5⟩ := own_form HO5.out; have HC5 := Lib.hid hc5; clear hc5))
  go_loopw [8, 21] (fun v i wr => ∃ k : Nat, i = .int .i64 k ∧ k ≤ n ∧ wr.ownsRow w5.heap.size 3 1 v (ovL L lev k).length ((ovL L lev k).map (Value.int .i64)) ∧ Below w5.heap.size w5 wr) (fun _ i _ => n - (intOf i).toNat)
  case atStart => exact ⟨0, rfl, Nat.zero_le _, by show World.ownsRow _ _ _ _ _ 0 []; exact World.ownsRow_nil _ _ _ _, Below.refl _ _⟩
  case round =>
    obtain ⟨k, rfl, hk, ho, hb⟩ := hrel
    have HO := Lib.hid ho; have HB := Lib.hid hb; clear ho hb
    obtain ⟨p1, cap1, rfl, _⟩ := own_form HO.out
    have hol := ovL_len L lev k
    by_cases hlt : k < n
    · obtain ⟨gg, rfl, _, hlt2, hcell⟩ := HC5.out (by omega)
      obtain ⟨f1, f2⟩ := flat2_sp L k (by rw [HLN.out]; exact hlt)
      have e1 := ((HB.out.cell (p := ⟨gg, k * 2, none⟩) hlt2).trans (hcell _ (by omega))).trans f1
      have e2 := ((HB.out.cell (p := ⟨gg, k * 2 + 1, none⟩) hlt2).trans (hcell _ (by omega))).trans f2
      have hsu := ovL_succ L lev k
      obtain ⟨y1, hy1⟩ : ∃ y, (sp L k).1 = y := ⟨_, rfl⟩
      obtain ⟨y2, hy2⟩ : ∃ y, (sp L k).2 = y := ⟨_, rfl⟩
      rw [hy1] at e1 hsu
      rw [hy2] at e2
      have hsz := HB.out.size
      clear hcell f1 f2 hy1 hy2 HC5
      by_cases hge : lev ≤ y1
      · rw [if_pos hge] at hsu
        have HSU := Lib.hid hsu
        have gg : decide (lev ≤ y1) = true := decide_eq_true hge
        clear hsu hge
        go_wp2_with (at_builtin; refine wpList_append_own _ rfl _ _ 26 rfl w5.heap.size 3 i0 _ 1 8 Try.underlying26 I1.out I2.out I3.out I4.out rfl (by decide) _ _ _ rfl ((HO.out.alloc _).alloc _) ⟨wr.heap.size + 1, 0, none⟩ 1 1 [.int .i64 (k : Int)] rfl rfl (lit_cells1g _ _ _ (by simp)) ?c2 ?c3 ?c4 ?c5 ?_)
        case c2 => simp [Value.oneCell']
        case c3 => unfold maxLen; omega
        case c4 => omega
        case c5 => first | omega | (simp; omega)
        intro v' w6 hown hgrow _
        have HOW := Lib.hid hown; have HGR := Lib.hid hgrow; clear hown hgrow
        obtain ⟨p', cap', rfl, _⟩ := own_form HOW.out
        go_wp2
        go_roundw
        case rel =>
          refine ⟨k + 1, by go_num, hlt, ?_, below_grown (bA (bA HB.out _) _) ((HO.out.alloc _).alloc _) (Nat.le_refl _) HGR.out⟩
          rw [HSU.out, List.map_append, List.length_append]
          exact HOW.out
        case measure => simp [intOf]; omega
      · rw [if_neg hge] at hsu
        have HSU := Lib.hid hsu
        have gg : decide (lev ≤ y1) = false := decide_eq_false hge
        clear hsu hge
        go_wp2
        go_roundw
        case rel => exact ⟨k + 1, by go_num, hlt, by rw [HSU.out]; exact HO.out.alloc _, bA HB.out _⟩
        case measure => simp [intOf]; omega
    · obtain rfl : k = n := by omega
      go_wp2
      go_ret2
      exact ⟨_, _, rfl, ints_own HO.out, bT (bT HB1.out HB5.out) HB.out⟩

theorem asks_nil (T : Town) : asks T [] = true := rfl
theorem asks_one {T : Town} (u : Int) (hok : T.ok = true) : asks T [u] = within u 0 (wrap64 (T.W - 1)) := by
  have hW := ok_W hok
  rw [IntWalk.wrap64_in _ (by omega)]
  simp [asks]
theorem kres_bad {T : Town} {b b' : Bool} (h : T.ok = false) : kres T b = kres T b' := by simp [kres, h]
theorem levelP_any (T : Town) (u : Int) (p q : Option Addr) (c d : Nat) (w : World) (hs : T.s.length ≤ 1000000) (hr : T.r.length ≤ 1000000) (ht : TownIn w w.heap.size T p q) :
    Calls Try.prog 24 #[.agg #[.int .i64 T.W, .slice p T.s.length c, .slice q T.r.length d], .int .i64 u] w fun e w' =>
      e = .returned (.tuple #[.agg #[.int .i64 (lres T u).1.1, .int .i64 (lres T u).1.2], .int .i64 (lres T u).2]) ∧ Below w.heap.size w w' := by
  by_cases he : (kres T (within u 0 (wrap64 (T.W - 1)))).2 = 0
  · obtain ⟨hok, hb, M, hM, hl⟩ := kres_ok he
    obtain ⟨h0, h1⟩ := lres_ok he
    obtain ⟨v, rfl⟩ : ∃ v : Nat, u = v := ⟨u.toNat, by omega⟩
    rw [hl, lv_len, Int.toNat_natCast] at h1
    have e : lres T v = (dif M 0 (v + 1), 0) := by simp only [lres]; rw [if_pos he, hl, Int.toNat_natCast, lv_at h1]
    rw [e]
    exact level_ok T M v p q c d w hok hM (by omega) ht
  · have ha : kres T (asks T [u]) = kres T (within u 0 (wrap64 (T.W - 1))) := by
      cases hok : T.ok with
      | true => rw [asks_one u hok]
      | false => exact kres_bad hok
    have e : lres T u = ((0, 0), (kres T (within u 0 (wrap64 (T.W - 1)))).2) := by simp only [lres]; rw [if_neg he]
    rw [e]
    exact level_er T u _ p q c d w hs hr (by rw [← ha]; exact learnt_er (by rw [ha]; exact he)) (by simpa using he) ht
theorem lowestP_any (T : Town) (p q : Option Addr) (c d : Nat) (w : World) (hs : T.s.length ≤ 1000000) (hr : T.r.length ≤ 1000000) (ht : TownIn w w.heap.size T p q) :
    Calls Try.prog 26 #[.agg #[.int .i64 T.W, .slice p T.s.length c, .slice q T.r.length d]] w fun e w' =>
      ∃ p' c', e = .returned (.tuple #[.slice p' (kres T true).1.length c', .int .i64 (kres T true).2]) ∧ Ints w' p' ((kres T true).1.map fun x => x.1) ∧ Below w.heap.size w w' := by
  by_cases he : (kres T true).2 = 0
  · obtain ⟨hok, _, M, hM, hl⟩ := kres_ok he
    rw [he, hl, lv_len]
    exact lowest_i T M T.W.toNat p q c d w hok hM (by have := ok_W hok; omega) ht
  · rw [kres_err he]
    exact (lowest_er T (kres T true).2 p q c d w hs hr (learnt_er (xs := []) he) (by simpa using he) ht).mono fun e w' ⟨h1, h2⟩ => ⟨none, 0, h1, fun h => absurd h (Nat.lt_irrefl _), h2⟩
theorem highestP_any (T : Town) (p q : Option Addr) (c d : Nat) (w : World) (hs : T.s.length ≤ 1000000) (hr : T.r.length ≤ 1000000) (ht : TownIn w w.heap.size T p q) :
    Calls Try.prog 28 #[.agg #[.int .i64 T.W, .slice p T.s.length c, .slice q T.r.length d]] w fun e w' =>
      ∃ p' c', e = .returned (.tuple #[.slice p' (kres T true).1.length c', .int .i64 (kres T true).2]) ∧ Ints w' p' ((kres T true).1.map fun x => x.2) ∧ Below w.heap.size w w' := by
  by_cases he : (kres T true).2 = 0
  · obtain ⟨hok, _, M, hM, hl⟩ := kres_ok he
    rw [he, hl, lv_len]
    exact highest_i T M T.W.toNat p q c d w hok hM (by have := ok_W hok; omega) ht
  · rw [kres_err he]
    exact (highest_er T (kres T true).2 p q c d w hs hr (learnt_er (xs := []) he) (by simpa using he) ht).mono fun e w' ⟨h1, h2⟩ => ⟨none, 0, h1, fun h => absurd h (Nat.lt_irrefl _), h2⟩
theorem overP_any (T : Town) (lev : Int) (p q : Option Addr) (c d : Nat) (w : World) (hs : T.s.length ≤ 1000000) (hr : T.r.length ≤ 1000000) (ht : TownIn w w.heap.size T p q) :
    Calls Try.prog 30 #[.agg #[.int .i64 T.W, .slice p T.s.length c, .slice q T.r.length d], .int .i64 lev] w fun e w' =>
      ∃ p' c', e = .returned (.tuple #[.slice p' (ovL (kres T true).1 lev (kres T true).1.length).length c', .int .i64 (kres T true).2]) ∧ Ints w' p' (ovL (kres T true).1 lev (kres T true).1.length) ∧ Below w.heap.size w w' := by
  by_cases he : (kres T true).2 = 0
  · obtain ⟨hok, _, M, hM, hl⟩ := kres_ok he
    rw [he, hl, lv_len]
    exact over_ok T M T.W.toNat lev p q c d w hok hM (by have := ok_W hok; omega) ht
  · rw [kres_err he]
    exact (over_er T (kres T true).2 lev p q c d w hs hr (learnt_er (xs := []) he) (by simpa using he) ht).mono fun e w' ⟨h1, h2⟩ => ⟨none, 0, h1, fun h => absurd h (Nat.lt_irrefl _), h2⟩
end Go.Proofs.Ytmfbfcknnjbabaa
