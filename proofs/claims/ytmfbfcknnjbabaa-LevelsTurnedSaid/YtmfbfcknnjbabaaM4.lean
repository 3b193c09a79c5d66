/- The contracts of the specification's known, Level, Lowest, Highest and Over, for any town. -/
import Derived.Test.YtmfbfcknnjbabaaM3
import Derived.Test.YtmfbfcknnjbabaaG9
set_option linter.unusedSimpArgs false
set_option linter.unusedVariables false
namespace Go.Proofs.Ytmfbfcknnjbabaa
open Go.RowKit

theorem lit_cells1 (w : World) (x : Value) (e : TypeId) : ∀ (j : Nat) (u : Value), [x][j]? = some u → (w.alloc (.cells #[x] e)).cell? ((⟨w.heap.size, 0, none⟩ : Addr).add j) = some u := fun j u h => by
  cases j with
  | zero =>
    simp only [List.getElem?_cons_zero, Option.some.injEq] at h
    subst h
    rw [add_at]
    go_simp
  | succ j => simp at h
def askE (T : Town) (b : Bool) : Int := if T.ok then (if b then 0 else 1) else 10
/-- what known returns: the spans, the error -/
def kres (T : Town) (b : Bool) : List (Int × Int) × Int :=
  if T.ok then (if b then (match kn T with | some M => (lv M T.W.toNat, 0) | none => ([], 3)) else ([], 1)) else ([], 10)
structure SpIn (w : World) (p : Option Addr) (L : List (Int × Int)) : Prop where
  at' : 0 < L.length → ∃ g, p = some ⟨g, 0, none⟩ ∧ g < w.heap.size ∧ ∀ k, k < L.length → w.cell? ⟨g, k * 2, none⟩ = some (.int .i64 (sp L k).1) ∧ w.cell? ⟨g, k * 2 + 1, none⟩ = some (.int .i64 (sp L k).2)
theorem SpOwn.into {w : World} {g n : Nat} {L : List (Int × Int)} (h : SpOwn w g n L) : SpIn w (some ⟨g, 0, none⟩) L :=
  ⟨fun _ => ⟨g, rfl, h.lt, fun k hk => ⟨h.c0 k (by rw [← h.len]; exact hk), h.c1 k (by rw [← h.len]; exact hk)⟩⟩⟩
theorem SpIn.below {w w' : World} {p : Option Addr} {L : List (Int × Int)} (h : SpIn w p L) (hb : Below w.heap.size w w') : SpIn w' p L :=
  ⟨fun h0 => let ⟨g, e, hl, hc⟩ := h.at' h0; ⟨g, e, Nat.lt_of_lt_of_le hl hb.size, fun k hk => ⟨(hb.cell (p := ⟨g, k * 2, none⟩) hl).trans (hc k hk).1, (hb.cell (p := ⟨g, k * 2 + 1, none⟩) hl).trans (hc k hk).2⟩⟩⟩
theorem spIn_nil (w : World) (p : Option Addr) : SpIn w p [] := ⟨fun h => absurd h (Nat.lt_irrefl _)⟩
theorem kres_len (T : Town) (b : Bool) : (kres T b).1.length ≤ 6 := by
  unfold kres
  cases hok : T.ok with
  | false => simp
  | true =>
    have hW := ok_W hok
    cases b with
    | false => simp
    | true =>
      cases kn T with
      | none => simp
      | some M => simp [lv_len]; omega

set_option maxRecDepth 100000 in
set_option maxHeartbeats 2000000 in
theorem ask_any (T : Town) (b : Bool) (p q : Option Addr) (c d : Nat) (w : World) (hs : T.s.length ≤ 1000000) (hr : T.r.length ≤ 1000000) (ht : TownIn w w.heap.size T p q) :
    Calls Try.prog 90 #[.agg #[.int .i64 T.W, .slice p T.s.length c, .slice q T.r.length d], .bool b] w fun e w' => e = .returned (.int .i64 (askE T b)) ∧ Below w.heap.size w w' := by
  obtain ⟨w1, hw1, hb1, hz1, k0, k1, k2⟩ := box_town w T.W p q T.s.length T.r.length c d
  have hc := checkR_any T p q c d w1 hs hr (ht.bel hb1)
  cases hok : T.ok with
  | false =>
    rw [hok, vErr_f] at hc
    have HC := Lib.hid hc; have HB := Lib.hid hb1
    have HE := Lib.hid (show askE T b = 10 by simp [askE, hok])
    clear hc hb1 ht hok
    rw [HE.out]
    go_enter Try.func90, Try.ntmps90
    go_wp2_with (go_at_call 21; refine HC.out.mono ?_; rintro e w2 ⟨rfl, hb2⟩)
    go_ret
    exact ⟨rfl, bT HB.out hb2⟩
  | true =>
    rw [hok, vErr_t] at hc
    have HC := Lib.hid hc; have HB := Lib.hid hb1
    cases b with
    | false =>
      have HE := Lib.hid (show askE T false = 1 by simp [askE, hok])
      clear hc hb1 ht hok
      rw [HE.out]
      go_enter Try.func90, Try.ntmps90
      go_wp2_with (go_at_call 21; refine HC.out.mono ?_; rintro e w2 ⟨rfl, hb2⟩)
      go_ret
      exact ⟨rfl, bT HB.out hb2⟩
    | true =>
      have HE := Lib.hid (show askE T true = 0 by simp [askE, hok])
      clear hc hb1 ht hok
      rw [HE.out]
      go_enter Try.func90, Try.ntmps90
      go_wp2_with (go_at_call 21; refine HC.out.mono ?_; rintro e w2 ⟨rfl, hb2⟩)
      go_ret
      exact ⟨rfl, bT HB.out hb2⟩

def KnownPost (T : Town) (b : Bool) (w : World) (e : Ending) (w' : World) : Prop :=
  ∃ p c, e = .returned (.tuple #[.slice p (kres T b).1.length c, .int .i64 (kres T b).2]) ∧ SpIn w' p (kres T b).1 ∧ Below w.heap.size w w'
set_option maxRecDepth 100000 in
set_option maxHeartbeats 4000000 in
theorem known_any (T : Town) (b : Bool) (p q : Option Addr) (c d : Nat) (w : World) (hs : T.s.length ≤ 1000000) (hr : T.r.length ≤ 1000000) (ht : TownIn w w.heap.size T p q) :
    Calls Try.prog 60 #[.agg #[.int .i64 T.W, .slice p T.s.length c, .slice q T.r.length d], .bool b] w (KnownPost T b w) := by
  obtain ⟨w1, hw1, hb1, hz1, k0, k1, k2⟩ := box_town w T.W p q T.s.length T.r.length c d
  have hl1 : w.heap.size < w1.heap.size := by omega
  have ha := ask_any T b p q c d w1 hs hr (ht.bel hb1)
  by_cases hgood : T.ok = true ∧ b = true
  · obtain ⟨hok, rfl⟩ := hgood
    rw [show askE T true = 0 by simp [askE, hok]] at ha
    have hW := ok_W hok
    have hsp := fun (V : World) (hV : Below w1.heap.size w1 V) => spans_any T T.W.toNat p q c d V hok (by omega) (ht.bel (bT hb1 hV))
    have HA := Lib.hid ha; have HB := Lib.hid hb1; have HSP := Lib.hid hsp
    have HOK := Lib.hid hok
    clear ha hb1 ht hsp hok
    cases hk : kn T with
    | none =>
      have HK := Lib.hid hk
      clear hk
      go_enter Try.func60, Try.ntmps60
      go_wp2_with (first
        | (go_at_call 90; refine HA.out.mono ?_; rintro e w2 ⟨rfl, hb2⟩; go_must (have HB2 := Lib.hid hb2; have j0 := (hb2.cell (p := ⟨w.heap.size, 0, none⟩) hl1).trans k0; have j1 := (hb2.cell (p := ⟨w.heap.size, 1, none⟩) hl1).trans k1; have j2 := (hb2.cell (p := ⟨w.heap.size, 2, none⟩) hl1).trans k2; clear hb2))
        | (go_at_call 54; refine (HSP.out _ HB2.out).mono ?_; rintro e w3 ⟨hb3, ⟨_, rfl⟩ | ⟨M, hM, _⟩⟩; rotate_left; (exact absurd (HK.out.symm.trans hM) (by simp)); have HB3 := Lib.hid hb3; clear hb3))
      go_ret2
      have hr : kres T true = ([], 3) := by simp [kres, HOK.out, HK.out]
      exact ⟨none, 0, by rw [hr]; rfl, by rw [hr]; exact spIn_nil _ _, bT HB.out (bT HB2.out HB3.out)⟩
    | some M =>
      have HK := Lib.hid hk
      clear hk
      go_enter Try.func60, Try.ntmps60
      go_wp2_with (first
        | (go_at_call 90; refine HA.out.mono ?_; rintro e w2 ⟨rfl, hb2⟩; go_must (have HB2 := Lib.hid hb2; have j0 := (hb2.cell (p := ⟨w.heap.size, 0, none⟩) hl1).trans k0; have j1 := (hb2.cell (p := ⟨w.heap.size, 1, none⟩) hl1).trans k1; have j2 := (hb2.cell (p := ⟨w.heap.size, 2, none⟩) hl1).trans k2; clear hb2))
        | (go_at_call 54; refine (HSP.out _ HB2.out).mono ?_; rintro e w3 ⟨hb3, ⟨hN, _⟩ | ⟨M', hM, rfl, hs3⟩⟩; (exact absurd (HK.out.symm.trans hN) (by simp)); have HB3 := Lib.hid hb3; have HS3 := Lib.hid hs3; have HM := Lib.hid hM; clear hb3 hs3 hM))
      go_ret2
      have hm : M' = M := by have := HM.out.symm.trans HK.out; simpa using this
      have hr : kres T true = (lv M T.W.toNat, 0) := by simp [kres, HOK.out, HK.out]
      exact ⟨some ⟨w2.heap.size + 1, 0, none⟩, T.W.toNat, by rw [hr, lv_len]; rfl, by rw [hr, ← hm]; exact HS3.out.into, bT HB.out (bT HB2.out HB3.out)⟩
  · have hr0 : kres T b = ([], askE T b) ∧ askE T b ≠ 0 := by
      cases hok : T.ok with
      | false => simp [kres, askE, hok]
      | true =>
        cases b with
        | false => simp [kres, askE, hok]
        | true => exact absurd ⟨hok, rfl⟩ hgood
    obtain ⟨er, her⟩ : ∃ z, askE T b = z := ⟨_, rfl⟩
    rw [her] at ha hr0
    have f0 : (er != 0) = true := by simpa using hr0.2
    have HA := Lib.hid ha; have HB := Lib.hid hb1
    have HR := Lib.hid hr0.1
    clear ha hb1 ht her hr0 hgood
    go_enter Try.func60, Try.ntmps60
    go_wp2_with (first
      | (go_at_call 90; refine HA.out.mono ?_; rintro e w2 ⟨rfl, hb2⟩; go_must (have HB2 := Lib.hid hb2; have j0 := (hb2.cell (p := ⟨w.heap.size, 0, none⟩) hl1).trans k0; have j1 := (hb2.cell (p := ⟨w.heap.size, 1, none⟩) hl1).trans k1; have j2 := (hb2.cell (p := ⟨w.heap.size, 2, none⟩) hl1).trans k2; clear hb2)))
    go_ret2
    exact ⟨none, 0, by rw [HR.out]; rfl, by rw [HR.out]; exact spIn_nil _ _, bT HB.out HB2.out⟩

set_option maxRecDepth 100000 in
set_option maxHeartbeats 4000000 in
theorem lowestR_any (T : Town) (p q : Option Addr) (c d : Nat) (w : World) (hs : T.s.length ≤ 1000000) (hr : T.r.length ≤ 1000000) (ht : TownIn w w.heap.size T p q) :
    Calls Try.prog 27 #[.agg #[.int .i64 T.W, .slice p T.s.length c, .slice q T.r.length d]] w fun e w' =>
      ∃ p' c', e = .returned (.tuple #[.slice p' (kres T true).1.length c', .int .i64 (kres T true).2]) ∧ Ints w' p' ((kres T true).1.map fun x => x.1) ∧ Below w.heap.size w w' := by
  obtain ⟨w1, hw1, hb1, hz1, k0, k1, k2⟩ := box_town w T.W p q T.s.length T.r.length c d
  obtain ⟨i0, hi, hz0, hz1', hz2⟩ := info_parts info3
  have I1 := Lib.hid hi; have I2 := Lib.hid hz0; have I3 := Lib.hid hz1'; have I4 := Lib.hid hz2; clear hi hz0 hz1' hz2
  have hl1 : w.heap.size < w1.heap.size := by omega
  have hk := known_any T true p q c d w1 hs hr (ht.bel hb1)
  unfold KnownPost at hk
  have hL6 := kres_len T true
  obtain ⟨L, hL⟩ : ∃ z, (kres T true).1 = z := ⟨_, rfl⟩
  obtain ⟨er, her⟩ : ∃ z, (kres T true).2 = z := ⟨_, rfl⟩
  rw [hL, her] at hk ⊢
  rw [hL] at hL6
  have HK := Lib.hid hk; have HB1 := Lib.hid hb1
  clear hk hb1 hz1 ht hL her
  go_enter Try.func27, Try.ntmps27
  go_wp2_with (go_at_call 60; refine HK.out.mono ?_; rintro e w2 ⟨p2, c2, rfl, hi2, hb2⟩; have HI2 := Lib.hid hi2; have HB2 := Lib.hid hb2; clear hi2 hb2)
  go_loopw [6, 7] (fun v i wr => ∃ k : Nat, i = .int .i64 k ∧ k ≤ L.length ∧ wr.ownsRow w2.heap.size 3 1 v k ((L.take k).map fun x => .int .i64 x.1) ∧ Below w2.heap.size w2 wr) (fun _ i _ => L.length - (intOf i).toNat)
  case atStart => exact ⟨0, rfl, Nat.zero_le _, World.ownsRow_nil _ _ _ _, Below.refl _ _⟩
  case round =>
    obtain ⟨k, rfl, hk, ho, hb⟩ := hrel
    have HO := Lib.hid ho; have HB := Lib.hid hb; clear ho hb
    obtain ⟨p1, cap1, rfl, _⟩ := own_form HO.out
    by_cases hlt : k < L.length
    · obtain ⟨g, rfl, hlg, hcell⟩ := HI2.out.at' (by omega)
      have e1 := (HB.out.cell (p := ⟨g, k * 2, none⟩) hlg).trans (hcell k hlt).1
      obtain ⟨y1, hy⟩ : ∃ y, (sp L k).1 = y := ⟨_, rfl⟩
      rw [hy] at e1
      have HY := Lib.hid hy
      have hsz := HB.out.size
      clear hcell hy
      go_wp2_with (at_builtin; refine wpList_append_own _ rfl _ _ 26 rfl w2.heap.size 3 i0 _ 1 8 Try.underlying26 I1.out I2.out I3.out I4.out rfl (by decide) _ _ _ rfl (HO.out.alloc _) ⟨wr.heap.size, 0, none⟩ 1 1 [.int .i64 y1] rfl rfl (lit_cells1 _ _ _) ?c2 ?c3 ?c4 ?c5 ?_)
      case c2 => simp [Value.oneCell']
      case c3 => unfold maxLen; omega
      case c4 => omega
      case c5 => first | omega | (simp; omega)
      intro v' w6 hown hgrow _
      have HOW := Lib.hid hown; have HGR := Lib.hid hgrow; clear hown hgrow
      obtain ⟨p', cap', rfl, _⟩ := own_form HOW.out
      go_wp2
      go_roundw
      case rel =>
        refine ⟨k + 1, by go_num, hlt, ?_, below_grown (bA HB.out _) (HO.out.alloc _) (Nat.le_refl _) HGR.out⟩
        rw [take_map_succ _ _ _ hlt, ← sp_at _ _ hlt, HY.out, List.map_take]
        exact HOW.out
      case measure => simp [intOf]; omega
    · obtain rfl : k = L.length := by omega
      go_wp2
      go_ret2
      refine ⟨_, _, rfl, ints_own (n := L.length) (c := cap1) (base := w2.heap.size) ?_, bT (bT HB1.out HB2.out) HB.out⟩
      have := HO.out
      rw [List.take_length] at this
      rw [List.map_map]
      exact this

set_option maxRecDepth 100000 in
set_option maxHeartbeats 4000000 in
theorem highestR_any (T : Town) (p q : Option Addr) (c d : Nat) (w : World) (hs : T.s.length ≤ 1000000) (hr : T.r.length ≤ 1000000) (ht : TownIn w w.heap.size T p q) :
    Calls Try.prog 29 #[.agg #[.int .i64 T.W, .slice p T.s.length c, .slice q T.r.length d]] w fun e w' =>
      ∃ p' c', e = .returned (.tuple #[.slice p' (kres T true).1.length c', .int .i64 (kres T true).2]) ∧ Ints w' p' ((kres T true).1.map fun x => x.2) ∧ Below w.heap.size w w' := by
  obtain ⟨w1, hw1, hb1, hz1, k0, k1, k2⟩ := box_town w T.W p q T.s.length T.r.length c d
  obtain ⟨i0, hi, hz0, hz1', hz2⟩ := info_parts info3
  have I1 := Lib.hid hi; have I2 := Lib.hid hz0; have I3 := Lib.hid hz1'; have I4 := Lib.hid hz2; clear hi hz0 hz1' hz2
  have hl1 : w.heap.size < w1.heap.size := by omega
  have hk := known_any T true p q c d w1 hs hr (ht.bel hb1)
  unfold KnownPost at hk
  have hL6 := kres_len T true
  obtain ⟨L, hL⟩ : ∃ z, (kres T true).1 = z := ⟨_, rfl⟩
  obtain ⟨er, her⟩ : ∃ z, (kres T true).2 = z := ⟨_, rfl⟩
  rw [hL, her] at hk ⊢
  rw [hL] at hL6
  have HK := Lib.hid hk; have HB1 := Lib.hid hb1
  clear hk hb1 hz1 ht hL her
  go_enter Try.func29, Try.ntmps29
  go_wp2_with (go_at_call 60; refine HK.out.mono ?_; rintro e w2 ⟨p2, c2, rfl, hi2, hb2⟩; have HI2 := Lib.hid hi2; have HB2 := Lib.hid hb2; clear hi2 hb2)
  go_loopw [6, 7] (fun v i wr => ∃ k : Nat, i = .int .i64 k ∧ k ≤ L.length ∧ wr.ownsRow w2.heap.size 3 1 v k ((L.take k).map fun x => .int .i64 x.2) ∧ Below w2.heap.size w2 wr) (fun _ i _ => L.length - (intOf i).toNat)
  case atStart => exact ⟨0, rfl, Nat.zero_le _, World.ownsRow_nil _ _ _ _, Below.refl _ _⟩
  case round =>
    obtain ⟨k, rfl, hk, ho, hb⟩ := hrel
    have HO := Lib.hid ho; have HB := Lib.hid hb; clear ho hb
    obtain ⟨p1, cap1, rfl, _⟩ := own_form HO.out
    by_cases hlt : k < L.length
    · obtain ⟨g, rfl, hlg, hcell⟩ := HI2.out.at' (by omega)
      have e1 := (HB.out.cell (p := ⟨g, k * 2 + 1, none⟩) hlg).trans (hcell k hlt).2
      obtain ⟨y1, hy⟩ : ∃ y, (sp L k).2 = y := ⟨_, rfl⟩
      rw [hy] at e1
      have HY := Lib.hid hy
      have hsz := HB.out.size
      clear hcell hy
      go_wp2_with (at_builtin; refine wpList_append_own _ rfl _ _ 26 rfl w2.heap.size 3 i0 _ 1 8 Try.underlying26 I1.out I2.out I3.out I4.out rfl (by decide) _ _ _ rfl (HO.out.alloc _) ⟨wr.heap.size, 0, none⟩ 1 1 [.int .i64 y1] rfl rfl (lit_cells1 _ _ _) ?c2 ?c3 ?c4 ?c5 ?_)
      case c2 => simp [Value.oneCell']
      case c3 => unfold maxLen; omega
      case c4 => omega
      case c5 => first | omega | (simp; omega)
      intro v' w6 hown hgrow _
      have HOW := Lib.hid hown; have HGR := Lib.hid hgrow; clear hown hgrow
      obtain ⟨p', cap', rfl, _⟩ := own_form HOW.out
      go_wp2
      go_roundw
      case rel =>
        refine ⟨k + 1, by go_num, hlt, ?_, below_grown (bA HB.out _) (HO.out.alloc _) (Nat.le_refl _) HGR.out⟩
        rw [take_map_succ _ _ _ hlt, ← sp_at _ _ hlt, HY.out, List.map_take]
        exact HOW.out
      case measure => simp [intOf]; omega
    · obtain rfl : k = L.length := by omega
      go_wp2
      go_ret2
      refine ⟨_, _, rfl, ints_own (n := L.length) (c := cap1) (base := w2.heap.size) ?_, bT (bT HB1.out HB2.out) HB.out⟩
      have := HO.out
      rw [List.take_length] at this
      rw [List.map_map]
      exact this

/-- the wells whose least level is at least a number, among the first ones -/
def ovL (L : List (Int × Int)) (lev : Int) (k : Nat) : List Int := ((List.range k).filter fun i => decide (lev ≤ (sp L i).1)).map fun (i : Nat) => (i : Int)
theorem ovL_succ (L : List (Int × Int)) (lev : Int) (k : Nat) : ovL L lev (k + 1) = if lev ≤ (sp L k).1 then ovL L lev k ++ [(k : Int)] else ovL L lev k := by
  unfold ovL
  rw [List.range_succ, List.filter_append, List.map_append]
  by_cases h : lev ≤ (sp L k).1
  · rw [if_pos h]; simp [h]
  · rw [if_neg h]; simp [h]
theorem ovL_len (L : List (Int × Int)) (lev : Int) : ∀ k, (ovL L lev k).length ≤ k
  | 0 => by simp [ovL]
  | k + 1 => by
    have := ovL_len L lev k
    rw [ovL_succ]
    split <;> simp <;> omega
set_option maxRecDepth 100000 in
set_option maxHeartbeats 4000000 in
theorem overR_any (T : Town) (lev : Int) (p q : Option Addr) (c d : Nat) (w : World) (hs : T.s.length ≤ 1000000) (hr : T.r.length ≤ 1000000) (ht : TownIn w w.heap.size T p q) :
    Calls Try.prog 31 #[.agg #[.int .i64 T.W, .slice p T.s.length c, .slice q T.r.length d], .int .i64 lev] w fun e w' =>
      ∃ p' c', e = .returned (.tuple #[.slice p' (ovL (kres T true).1 lev (kres T true).1.length).length c', .int .i64 (kres T true).2]) ∧ Ints w' p' (ovL (kres T true).1 lev (kres T true).1.length) ∧ Below w.heap.size w w' := by
  obtain ⟨w1, hw1, hb1, hz1, k0, k1, k2⟩ := box_town w T.W p q T.s.length T.r.length c d
  obtain ⟨i0, hi, hz0, hz1', hz2⟩ := info_parts info3
  have I1 := Lib.hid hi; have I2 := Lib.hid hz0; have I3 := Lib.hid hz1'; have I4 := Lib.hid hz2; clear hi hz0 hz1' hz2
  have hl1 : w.heap.size < w1.heap.size := by omega
  have hk := known_any T true p q c d w1 hs hr (ht.bel hb1)
  unfold KnownPost at hk
  have hL6 := kres_len T true
  obtain ⟨L, hL⟩ : ∃ z, (kres T true).1 = z := ⟨_, rfl⟩
  obtain ⟨er, her⟩ : ∃ z, (kres T true).2 = z := ⟨_, rfl⟩
  rw [hL, her] at hk ⊢
  rw [hL] at hL6
  have HK := Lib.hid hk; have HB1 := Lib.hid hb1
  clear hk hb1 hz1 ht hL her
  go_enter Try.func31, Try.ntmps31
  go_wp2_with (go_at_call 60; refine HK.out.mono ?_; rintro e w2 ⟨p2, c2, rfl, hi2, hb2⟩; have HI2 := Lib.hid hi2; have HB2 := Lib.hid hb2; clear hi2 hb2)
  go_loopw [8, 9] (fun v i wr => ∃ k : Nat, i = .int .i64 k ∧ k ≤ L.length ∧ wr.ownsRow w2.heap.size 3 1 v (ovL L lev k).length ((ovL L lev k).map (Value.int .i64)) ∧ Below w2.heap.size w2 wr) (fun _ i _ => L.length - (intOf i).toNat)
  case atStart => exact ⟨0, rfl, Nat.zero_le _, by show World.ownsRow _ _ _ _ _ 0 []; exact World.ownsRow_nil _ _ _ _, Below.refl _ _⟩
  case round =>
    obtain ⟨k, rfl, hk, ho, hb⟩ := hrel
    have HO := Lib.hid ho; have HB := Lib.hid hb; clear ho hb
    obtain ⟨p1, cap1, rfl, _⟩ := own_form HO.out
    have hol := ovL_len L lev k
    by_cases hlt : k < L.length
    · obtain ⟨g, rfl, hlg, hcell⟩ := HI2.out.at' (by omega)
      have e1 := (HB.out.cell (p := ⟨g, k * 2, none⟩) hlg).trans (hcell k hlt).1
      have hsu := ovL_succ L lev k
      obtain ⟨y1, hy⟩ : ∃ y, (sp L k).1 = y := ⟨_, rfl⟩
      rw [hy] at e1 hsu
      have hsz := HB.out.size
      clear hcell hy
      by_cases hge : lev ≤ y1
      · rw [if_pos hge] at hsu
        have HSU := Lib.hid hsu
        have gg : decide (lev ≤ y1) = true := decide_eq_true hge
        clear hsu hge
        go_wp2_with (at_builtin; refine wpList_append_own _ rfl _ _ 26 rfl w2.heap.size 3 i0 _ 1 8 Try.underlying26 I1.out I2.out I3.out I4.out rfl (by decide) _ _ _ rfl (HO.out.alloc _) ⟨wr.heap.size, 0, none⟩ 1 1 [.int .i64 (k : Int)] rfl rfl (lit_cells1 _ _ _) ?c2 ?c3 ?c4 ?c5 ?_)
        case c2 => simp [Value.oneCell']
        case c3 => unfold maxLen; omega
        case c4 => omega
        case c5 => first | omega | (simp; omega)
        intro v' w6 hown hgrow _
        have HOW := Lib.hid hown; have HGR := Lib.hid hgrow; clear hown hgrow
        obtain ⟨p', cap', rfl, _⟩ := own_form HOW.out
        go_wp2
        go_roundw
        case rel =>
          refine ⟨k + 1, by go_num, hlt, ?_, below_grown (bA HB.out _) (HO.out.alloc _) (Nat.le_refl _) HGR.out⟩
          rw [HSU.out, List.map_append, List.length_append]
          exact HOW.out
        case measure => simp [intOf]; omega
      · rw [if_neg hge] at hsu
        have HSU := Lib.hid hsu
        have gg : decide (lev ≤ y1) = false := decide_eq_false hge
        clear hsu hge
        go_wp2
        go_roundw
        case rel => exact ⟨k + 1, by go_num, hlt, by rw [HSU.out]; exact HO.out, HB.out⟩
        case measure => simp [intOf]; omega
    · obtain rfl : k = L.length := by omega
      go_wp2
      go_ret2
      exact ⟨_, _, rfl, ints_own HO.out, bT (bT HB1.out HB2.out) HB.out⟩

/-- IsWell, of whatever town -/
theorem isWell_w (W n : Int) (s r : Value) (w : World) : Calls Try.prog 48 #[.agg #[.int .i64 W, s, r], .int .i64 n] w fun e w' => e = .returned (.bool (within n 0 (wrap64 (W - 1)))) ∧ Below w.heap.size w w' := by
  go_enter Try.func48, Try.ntmps48
  go_wp2_with (go_at_call 49; refine (within_any _ _ _ _).mono ?_; rintro e w' ⟨rfl, rfl⟩)
  go_ret
  exact ⟨rfl, bA (Below.refl _ _) _⟩
/-- what Level returns: the span, the error -/
def lres (T : Town) (u : Int) : (Int × Int) × Int := let k := kres T (within u 0 (wrap64 (T.W - 1))); if k.2 = 0 then (sp k.1 u.toNat, 0) else ((0, 0), k.2)

theorem kres_ok {T : Town} {b : Bool} (h : (kres T b).2 = 0) : T.ok = true ∧ b = true ∧ ∃ M, kn T = some M ∧ (kres T b).1 = lv M T.W.toNat := by
  unfold kres at h ⊢
  cases hok : T.ok with
  | false => simp [hok] at h
  | true =>
    cases b with
    | false => simp [hok] at h
    | true =>
      cases hk : kn T with
      | none => simp [hok, hk] at h
      | some M => exact ⟨rfl, rfl, M, rfl, by simp⟩
theorem lres_ok {T : Town} {u : Int} (h : (kres T (within u 0 (wrap64 (T.W - 1)))).2 = 0) : 0 ≤ u ∧ u.toNat < (kres T (within u 0 (wrap64 (T.W - 1)))).1.length := by
  obtain ⟨hok, hb, M, hM, hl⟩ := kres_ok h
  have hW := ok_W hok
  rw [IntWalk.wrap64_in _ (by omega)] at hb
  simp only [within, decide_eq_true_eq] at hb
  refine ⟨hb.1, ?_⟩
  rw [hl, lv_len]
  omega
set_option maxRecDepth 100000 in
set_option maxHeartbeats 4000000 in
theorem levelR_any (T : Town) (u : Int) (p q : Option Addr) (c d : Nat) (w : World) (hs : T.s.length ≤ 1000000) (hr : T.r.length ≤ 1000000) (ht : TownIn w w.heap.size T p q) :
    Calls Try.prog 25 #[.agg #[.int .i64 T.W, .slice p T.s.length c, .slice q T.r.length d], .int .i64 u] w fun e w' =>
      e = .returned (.tuple #[.agg #[.int .i64 (lres T u).1.1, .int .i64 (lres T u).1.2], .int .i64 (lres T u).2]) ∧ Below w.heap.size w w' := by
  obtain ⟨w1, hw1, hb1, hz1, k0, k1, k2⟩ := box_town w T.W p q T.s.length T.r.length c d
  have hl1 : w.heap.size < w1.heap.size := by omega
  obtain ⟨w2, hw2⟩ : ∃ w2, w1.alloc (Obj.cells #[Value.int IntKind.i64 0, Value.int IntKind.i64 0] 38) = w2 := ⟨_, rfl⟩
  have hb2 : Below w1.heap.size w1 w2 := by rw [← hw2]; exact bA (Below.refl _ _) _
  have hr2 : w2.heap[w1.heap.size]? = some (.cells #[Value.int IntKind.i64 0, Value.int IntKind.i64 0] 38 (0, 0)) := by rw [← hw2]; exact heap_alloc_new _ _
  have m0 := (hb2.cell (p := ⟨w.heap.size, 0, none⟩) hl1).trans k0
  have m1 := (hb2.cell (p := ⟨w.heap.size, 1, none⟩) hl1).trans k1
  have m2 := (hb2.cell (p := ⟨w.heap.size, 2, none⟩) hl1).trans k2
  have hl2 : w.heap.size < w2.heap.size := by have := hb2.size; omega
  have hl3 : w1.heap.size < w2.heap.size := (Array.getElem?_eq_some_iff.1 hr2).1
  obtain ⟨bb, hbb⟩ : ∃ z, within u 0 (wrap64 (T.W - 1)) = z := ⟨_, rfl⟩
  have hlk := lres_ok (T := T) (u := u)
  have hle : lres T u = (if (kres T bb).2 = 0 then (sp (kres T bb).1 u.toNat, 0) else ((0, 0), (kres T bb).2)) := by rw [← hbb]; rfl
  rw [hbb] at hlk
  have hk := fun (V : World) (hV : Below w2.heap.size w2 V) => known_any T bb p q c d V hs hr (ht.bel (bT (bT hb1 hb2) hV))
  unfold KnownPost at hk
  have hiw := fun V => isWell_w T.W u (.slice p T.s.length c) (.slice q T.r.length d) V
  rw [hbb] at hiw
  have hL6 := kres_len T bb
  obtain ⟨L, hL⟩ : ∃ z, (kres T bb).1 = z := ⟨_, rfl⟩
  obtain ⟨er, her⟩ : ∃ z, (kres T bb).2 = z := ⟨_, rfl⟩
  simp only [hL, her] at hk hlk hle
  rw [hL] at hL6
  have HK := Lib.hid hk; have HB2 := Lib.hid (bT hb1 hb2); have HIW := Lib.hid hiw; have HR2 := Lib.hid hr2
  have HLK := Lib.hid hlk
  rw [hle]
  clear hk hb1 hb2 hz1 ht hL her hbb hiw hlk hle hr2 k0 k1 k2
  by_cases he : er = 0
  · subst he
    obtain ⟨hu0, hul⟩ := HLK.out rfl
    obtain ⟨v, rfl⟩ : ∃ v : Nat, u = v := ⟨u.toNat, by omega⟩
    rw [Int.toNat_natCast] at hul
    rw [if_pos rfl, Int.toNat_natCast]
    obtain ⟨⟨y1, y2⟩, hy⟩ : ∃ y, sp L v = y := ⟨_, rfl⟩
    rw [hy]
    have HY := Lib.hid hy
    have i0 : (0 : Int) ≤ (v : Int) := by omega
    have i1 : (v : Int) < (L.length : Int) := by omega
    clear hy hu0
    go_enter Try.func25, Try.ntmps25
    go_wp2
    clear hw1 hw2
    go_region_held3 (fun w' => w'.cell? ⟨w.heap.size, 0, none⟩ = some (.int .i64 T.W) ∧ w'.cell? ⟨w.heap.size, 1, none⟩ = some (.slice p T.s.length c) ∧ w'.cell? ⟨w.heap.size, 2, none⟩ = some (.slice q T.r.length d))
      (first | go_keep | exact ⟨d0, d1, d2⟩)
      (first
        | (go_at_call 48; refine (HIW.out _).mono ?_; rintro e w3 ⟨rfl, hb3⟩; go_must (have hB3 : Below w2.heap.size w2 w3 := bT (by repeat (first | assumption | exact Below.refl _ _ | refine bd ?_ | refine bD ?_ _)) hb3; have d0 := (hB3.cell (p := ⟨w.heap.size, 0, none⟩) hl2).trans m0; have d1 := (hB3.cell (p := ⟨w.heap.size, 1, none⟩) hl2).trans m1; have d2 := (hB3.cell (p := ⟨w.heap.size, 2, none⟩) hl2).trans m2; clear hb3))
        | (go_at_call 60; refine (HK.out _ (by repeat (first | assumption | exact Below.refl _ _ | refine bd ?_ | refine bD ?_ _))).mono ?_; rintro e w4 ⟨p4, c4, rfl, hi4, hb4⟩; go_must (have hB4 : Below w2.heap.size w2 w4 := bT (by repeat (first | assumption | exact Below.refl _ _ | refine bd ?_ | refine bD ?_ _)) hb4; have d0 := (hB4.cell (p := ⟨w.heap.size, 0, none⟩) hl2).trans m0; have d1 := (hB4.cell (p := ⟨w.heap.size, 1, none⟩) hl2).trans m1; have d2 := (hB4.cell (p := ⟨w.heap.size, 2, none⟩) hl2).trans m2; have HI4 := Lib.hid hi4; clear hb4 hi4)))
    obtain ⟨g, rfl, hlg, hcell⟩ := HI4.out.at' (by omega)
    obtain ⟨e1, e2⟩ := hcell v hul
    rw [HY.out] at e1 e2
    have hr4 := (hB4.block _ hl3).trans HR2.out
    have s0 := cell_of_row w4 w1.heap.size 0 _ _ _ hr4
    have s1 := cell_of_row w4 w1.heap.size 1 _ _ _ hr4
    simp only [List.getElem?_toArray, List.getElem?_cons_zero, List.getElem?_cons_succ] at s0 s1
    have g0 : ∀ i, w4.frozen? ⟨w1.heap.size, i, none⟩ = false := fun i => by simp [World.frozen?, hr4]
    have HB4 := Lib.hid (bT HB2.out hB4)
    have hz4 : w.heap.size ≤ w1.heap.size := by omega
    clear hcell hr4 hB3 hB4 d0 d1 d2
    go_wp2
    exact bodyPost_ret (v := .tuple #[.agg #[.int .i64 y1, .int .i64 y2], .int .i64 0]) (by simp [results, Try.results25, go_sem, s0, s1]) rfl ⟨rfl, bS (bS HB4.out (by dsimp only; omega) _) (by dsimp only; omega) _⟩
  · rw [if_neg he]
    have f0 : (er != 0) = true := by simpa using he
    clear he
    go_enter Try.func25, Try.ntmps25
    go_wp2
    clear hw1 hw2
    go_region_held3 (fun w' => w'.cell? ⟨w.heap.size, 0, none⟩ = some (.int .i64 T.W) ∧ w'.cell? ⟨w.heap.size, 1, none⟩ = some (.slice p T.s.length c) ∧ w'.cell? ⟨w.heap.size, 2, none⟩ = some (.slice q T.r.length d))
      (first | go_keep | exact ⟨d0, d1, d2⟩)
      (first
        | (go_at_call 48; refine (HIW.out _).mono ?_; rintro e w3 ⟨rfl, hb3⟩; go_must (have hB3 : Below w2.heap.size w2 w3 := bT (by repeat (first | assumption | exact Below.refl _ _ | refine bd ?_ | refine bD ?_ _)) hb3; have d0 := (hB3.cell (p := ⟨w.heap.size, 0, none⟩) hl2).trans m0; have d1 := (hB3.cell (p := ⟨w.heap.size, 1, none⟩) hl2).trans m1; have d2 := (hB3.cell (p := ⟨w.heap.size, 2, none⟩) hl2).trans m2; clear hb3))
        | (go_at_call 60; refine (HK.out _ (by repeat (first | assumption | exact Below.refl _ _ | refine bd ?_ | refine bD ?_ _))).mono ?_; rintro e w4 ⟨p4, c4, rfl, hi4, hb4⟩; go_must (have hB4 : Below w2.heap.size w2 w4 := bT (by repeat (first | assumption | exact Below.refl _ _ | refine bd ?_ | refine bD ?_ _)) hb4; have d0 := (hB4.cell (p := ⟨w.heap.size, 0, none⟩) hl2).trans m0; have d1 := (hB4.cell (p := ⟨w.heap.size, 1, none⟩) hl2).trans m1; have d2 := (hB4.cell (p := ⟨w.heap.size, 2, none⟩) hl2).trans m2; have HI4 := Lib.hid hi4; clear hb4 hi4)))
    have hr4 := (hB4.block _ hl3).trans HR2.out
    have s0 := cell_of_row w4 w1.heap.size 0 _ _ _ hr4
    have s1 := cell_of_row w4 w1.heap.size 1 _ _ _ hr4
    simp only [List.getElem?_toArray, List.getElem?_cons_zero, List.getElem?_cons_succ] at s0 s1
    have g0 : ∀ i, w4.frozen? ⟨w1.heap.size, i, none⟩ = false := fun i => by simp [World.frozen?, hr4]
    have HB4 := Lib.hid (bT HB2.out hB4)
    have hz4 : w.heap.size ≤ w1.heap.size := by omega
    clear hr4 hB3 hB4 d0 d1 d2
    go_wp2
    exact bodyPost_ret (v := .tuple #[.agg #[.int .i64 0, .int .i64 0], .int .i64 er]) (by simp [results, Try.results25, go_sem, s0, s1]) rfl ⟨rfl, bS (bS HB4.out (by dsimp only; omega) _) (by dsimp only; omega) _⟩
end Go.Proofs.Ytmfbfcknnjbabaa
