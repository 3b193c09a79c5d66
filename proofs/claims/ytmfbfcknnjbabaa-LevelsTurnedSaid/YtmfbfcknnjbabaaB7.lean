/- The contract of hear, where all words are heard. The contract of hear, where the words of a list are heard. -/
import Derived.Test.YtmfbfcknnjbabaaB5
set_option linter.unusedSimpArgs false
set_option linter.unusedVariables false
namespace Go.Proofs.Ytmfbfcknnjbabaa
open Go.RowKit

def hTo (S : Nat → Bool) (ws : List Wd) : Nat → Option (List Int)
  | 0 => some U49
  | k + 1 => match hTo S ws k with
    | none => none
    | some M => if S k then (match ws[k]? with
      | none => none
      | some x => if (addW M x.f x.t x.lo x.hi).1 then some (addW M x.f x.t x.lo x.hi).2 else none) else some M
theorem hTo_none {S : Nat → Bool} {ws : List Wd} {k : Nat} (h : hTo S ws k = none) : ∀ j, hTo S ws (k + j) = none
  | 0 => h
  | j + 1 => by rw [← Nat.add_assoc]; simp only [hTo]; rw [hTo_none h j]
def hres (n : Int) (o : Option (List Int)) : Int × List Int × Bool := match o with
  | some M => (n, M, true)
  | none => (0, Z49, false)
structure WordsAt (w : World) (B : Nat) (p : Option Addr) (ws : List Wd) : Prop where
  at_ : 0 < ws.length → ∃ g, p = some ⟨g, 0, none⟩ ∧ g < B ∧ ∀ j, j < ws.length * 4 → w.cell? ⟨g, j, none⟩ = (flat4 ws)[j]?
theorem WordsAt.below {w w' : World} {B : Nat} {p : Option Addr} {ws : List Wd} (h : WordsAt w B p ws) (hb : Below B w w') : WordsAt w' B p ws :=
  ⟨fun h0 => let ⟨g, e, l, c⟩ := h.at_ h0; ⟨g, e, l, fun j hj => (hb.cell l).trans (c j hj)⟩⟩
theorem WordsAt.mono {w : World} {B B' : Nat} {p : Option Addr} {ws : List Wd} (h : WordsAt w B p ws) (hb : B ≤ B') : WordsAt w B' p ws :=
  ⟨fun h0 => let ⟨g, e, l, c⟩ := h.at_ h0; ⟨g, e, Nat.lt_of_lt_of_le l hb, c⟩⟩

theorem results_kv_tmp {fn : Func} {p u : Tmp} {n : Int} {M : List Int} {w : World} {g : Nat} (h : fn.results = #[.cell p 76, .tmp u]) (tmps : Array Value) (hp : tmps.getD p undef = .pointer (some ⟨g, 0, none⟩)) (hr : RowAt w g n M) :
    (results fn tmps).run Try.prog w = .ok (.tuple #[.agg (kv n M), tmps.getD u undef]) w := by
  obtain ⟨fs, hu⟩ := und76
  have hl := run_loadVar_row (P := Try.prog) w g 76 76 (kv n M) (0, 0) _ hr.row hu rfl (by rw [info76, kv_size, hr.len])
  have hp' : tmps[p]?.getD undef = .pointer (some ⟨g, 0, none⟩) := by simpa using hp
  simp [results, h, hp', asAddr, hl]
theorem learn1_ex (n : Int) (w : World) : Calls Try.prog 89 #[.int .i64 n] w fun e w' => e = .returned (.bool true) ∧ Below w.heap.size w w' := by
  go_enter Try.func89, Try.ntmps89
  go_wp2
  go_ret
  exact ⟨rfl, Below.refl _ _⟩

set_option maxRecDepth 100000 in
set_option maxHeartbeats 2000000 in
theorem hearAll_any (n : Nat) (ws : List Wd) (S : Nat → Bool) (p : Option Addr) (c : Nat) (w : World) (hl : ws.length ≤ 1000) (hw : ∀ x ∈ ws, x.f < 7 ∧ x.t < 7) (hp : WordsAt w w.heap.size p ws)
    (hs : ∀ (k : Nat) (W : World), k < ws.length → Below w.heap.size w W → Calls Try.prog 89 #[.int .i64 k] W fun e w' => e = .returned (.bool (S k)) ∧ Below W.heap.size W w') :
    Calls Try.prog 69 #[.int .i64 n, .slice p ws.length c, .func (.func 89) #[] #[]] w fun e w' =>
      e = .returned (.tuple #[.agg (kv (hres n (hTo S ws ws.length)).1 (hres n (hTo S ws ws.length)).2.1), .bool (hres n (hTo S ws ws.length)).2.2]) ∧ Below w.heap.size w w' := by
  have HP := Lib.hid hp; have HS := Lib.hid hs; have HW := Lib.hid hw; clear hp hs hw
  have tok1 : True := trivial
  go_enter Try.func69, Try.ntmps69
  go_wp2_with (first
    | (have _t := tok1; refine wpList_alloc_kv rfl rfl ?_; clear tok1 _t; intro w1 hr1 hb1 hz1; have HR1 := Lib.hid hr1; have HB1 := Lib.hid hb1; have HZ1 := Lib.hid hz1; clear hr1 hb1 hz1)
    | (refine wpList_alloc_kv rfl rfl ?_; intro w2 hr2 hb2 hz2; have HR2 := Lib.hid hr2; have HB2 := Lib.hid hb2; have HZ2 := Lib.hid hz2; clear hr2 hb2 hz2)
    | (go_at_call 94; refine (unheard_any _ _).mono ?_; rintro e wu ⟨rfl, hbu⟩; have HBU := Lib.hid hbu; clear hbu)
    | (refine wpList_store_kv rfl _ _ rfl _ n 0 U49 Z49 rfl rfl (uIter_len 49) HR2.out ?_; intro w3 hr3 ho3; have HR3 := Lib.hid hr3; have HO3 := Lib.hid ho3; clear hr3 ho3))
  have z1 := HZ1.out
  have z2 := HZ2.out
  have zu := HBU.out.size
  have z3 := HO3.out.size
  have HB := Lib.hid (only_below (bT (bT HB1.out HBU.out) HB2.out) HO3.out (by omega)); have HRA := Lib.hid (((HR1.out.below HBU.out (by omega)).below HB2.out (by omega)).only HO3.out (by omega))
  obtain ⟨g, hg⟩ : ∃ g, g = wu.heap.size := ⟨_, rfl⟩
  rw [← hg]
  have HR3' : Hid (RowAt w3 g n U49) := by rw [hg]; exact HR3.out
  have zz : g < w3.heap.size := by omega
  have zn : w.heap.size < g := by omega
  clear HR1 HB1 HZ1 HR2 HB2 HZ2 HO3 HBU HR3 z1 z2 z3 zu hg
  go_loopw [15] (fun i wr => ∃ (k : Nat) (M : List Int), i = .int .i64 k ∧ k ≤ ws.length ∧ hTo S ws k = some M ∧ RowAt wr g n M ∧ w3.grownBy wr (some g)) (fun i _ => ws.length - (intOf i).toNat)
  case atStart => exact ⟨0, U49, rfl, Nat.zero_le _, rfl, HR3'.out, gR _ _⟩
  case round =>
    obtain ⟨k, M, rfl, hk, hm, hr, hgr⟩ := hrel
    have HM := Lib.hid hm; have HR := Lib.hid hr; have HG := Lib.hid hgr; clear hm hr hgr
    have hsz : g < wr.heap.size := HR.out.lt
    by_cases hlt : k < ws.length
    · obtain ⟨gw, rfl, hgw, hcell⟩ := HP.out.at_ (by omega)
      obtain ⟨f0, f1, f2, f3⟩ := flat4_at ws k hlt
      have tr : ∀ j, j < ws.length * 4 → wr.cell? ⟨gw, j, none⟩ = (flat4 ws)[j]? := fun j hj => ((gcell HG.out (by have := HB.out.size; omega) (by omega)).trans (HB.out.cell hgw)).trans (hcell j hj)
      have e0 := (tr (k * 4) (by omega)).trans f0
      have e1 := (tr (k * 4 + 1) (by omega)).trans f1
      have e2 := (tr (k * 4 + 2) (by omega)).trans f2
      have e3 := (tr (k * 4 + 3) (by omega)).trans f3
      obtain ⟨wf, wt⟩ := HW.out ws[k] (List.getElem_mem hlt)
      have hx : ws[k]? = some ws[k] := List.getElem?_eq_getElem hlt
      have HX := Lib.hid hx; clear hx
      obtain ⟨⟨xf, xt, xl, xh⟩, hxx⟩ : ∃ x, ws[k] = x := ⟨_, rfl⟩
      have HX2 : Hid (ws[k]? = some ⟨xf, xt, xl, xh⟩) := by show _ = _; rw [HX.out, hxx]
      rw [hxx] at e0 e1 e2 e3 wf wt
      dsimp only at e0 e1 e2 e3 wf wt
      clear tr f0 f1 f2 f3 hxx HX hcell
      have hbw : ∀ W, Below wr.heap.size wr W → Below w.heap.size w W := fun W hW => bT (bG HB.out HG.out (by omega)) hW
      have HBW := Lib.hid hbw; clear hbw
      have hs1 := HS.out k (wr.alloc (.cells #[.int .i64 xf, .int .i64 xt, .int .i64 xl, .int .i64 xh] 111)) hlt (HBW.out _ (bA (Below.refl _ _) _))
      have HS1 := Lib.hid hs1; clear hs1
      cases hS : S k with
      | false =>
        rw [hS] at HS1
        have HE : Hid (hTo S ws (k + 1) = some M) := by show _ = _; simp [hTo, HM.out, hS]
        clear hS
        go_wp2_with (go_at_call 89; refine HS1.out.mono ?_; rintro e w4 ⟨rfl, hb4⟩; have HB4 := Lib.hid hb4; clear hb4)
        go_roundw
        case rel => exact ⟨k + 1, M, by go_num, hlt, HE.out, HR.out.below (bT (bA (Below.refl _ _) _) HB4.out) hsz, gB HG.out (bT (bA (Below.refl _ _) _) HB4.out)⟩
        case measure => simp [intOf]; omega
      | true =>
        rw [hS] at HS1
        have hadd : ∀ W, RowAt W g n M → Calls Try.prog 95 #[.pointer (some ⟨g, 0, none⟩), .agg #[.int .i64 xf, .int .i64 xt, .int .i64 xl, .int .i64 xh]] W fun e w' => e = .returned (.bool (addW M xf xt xl xh).1) ∧ RowAt w' g n (addW M xf xt xl xh).2 ∧ W.grownBy w' (some g) := fun W hW => add_any n M g xf xt xl xh W wf wt hW
        cases hA : addW M xf xt xl xh with
        | mk b2 M2 =>
          rw [hA] at hadd
          dsimp only at hadd
          have HADD := Lib.hid hadd
          cases b2 with
          | false =>
            have hE : hTo S ws (k + 1) = none := by simp [hTo, HM.out, hS, HX2.out, hA]
            have hE2 : hTo S ws ws.length = none := by have := hTo_none hE (ws.length - (k + 1)); rwa [show k + 1 + (ws.length - (k + 1)) = ws.length by omega] at this
            have HE := Lib.hid hE2
            clear hS hA hE hE2 hadd
            go_wp2_with (first
              | (go_at_call 89; refine HS1.out.mono ?_; rintro e w4 ⟨rfl, hb4⟩; have HB4 := Lib.hid hb4; have q0 : w4.cell? ⟨wr.heap.size, 0, none⟩ = some (.int .i64 xf) := (hb4.cell (by simp)).trans (by go_simp); have q1 : w4.cell? ⟨wr.heap.size, 1, none⟩ = some (.int .i64 xt) := (hb4.cell (by simp)).trans (by go_simp); have q2 : w4.cell? ⟨wr.heap.size, 2, none⟩ = some (.int .i64 xl) := (hb4.cell (by simp)).trans (by go_simp); have q3 : w4.cell? ⟨wr.heap.size, 3, none⟩ = some (.int .i64 xh) := (hb4.cell (by simp)).trans (by go_simp); clear hb4)
              | (go_at_call 95; refine (HADD.out _ (HR.out.below (bT (bA (Below.refl _ _) _) HB4.out) hsz)).mono ?_; rintro e w5 ⟨rfl, hr5, hg5⟩; have hra : RowAt w5 w.heap.size 0 Z49 := (⟨(hg5.block _ (by have := HB4.out.size; simp at this; omega) (by simp; omega)).trans (((bT (bA (Below.refl _ _) _) HB4.out).block _ (by omega)).trans ((HG.out.block _ (by have := HRA.out.lt; omega) (by simp; omega)).trans HRA.out.row)), HRA.out.len⟩); have HRA2 := Lib.hid hra; have HG5 := Lib.hid hg5; have HR5 := Lib.hid hr5; clear hra hg5 hr5)
              | (refine wpList_build_kv0 rfl rfl ?_)
              | (refine wpList_store_kv rfl _ _ rfl _ 0 0 Z49 Z49 rfl rfl rfl HRA2.out ?_; intro w6 hr6 ho6; have HR6 := Lib.hid hr6; have HO6 := Lib.hid ho6; clear hr6 ho6))
            have hb6 : Below w.heap.size w w6 := only_below (bG (HBW.out _ (bT (bA (Below.refl _ _) _) HB4.out)) HG5.out (by omega)) HO6.out (Nat.le_refl _)
            exact bodyPost_ret (v := .tuple #[.agg (kv 0 Z49), .bool false]) (results_kv_tmp Try.results69 _ rfl HR6.out) rfl ⟨by rw [HE.out]; rfl, hb6⟩
          | true =>
            have HE : Hid (hTo S ws (k + 1) = some M2) := by show _ = _; simp [hTo, HM.out, hS, HX2.out, hA]
            clear hS hA hadd
            go_wp2_with (first
              | (go_at_call 89; refine HS1.out.mono ?_; rintro e w4 ⟨rfl, hb4⟩; have HB4 := Lib.hid hb4; have q0 : w4.cell? ⟨wr.heap.size, 0, none⟩ = some (.int .i64 xf) := (hb4.cell (by simp)).trans (by go_simp); have q1 : w4.cell? ⟨wr.heap.size, 1, none⟩ = some (.int .i64 xt) := (hb4.cell (by simp)).trans (by go_simp); have q2 : w4.cell? ⟨wr.heap.size, 2, none⟩ = some (.int .i64 xl) := (hb4.cell (by simp)).trans (by go_simp); have q3 : w4.cell? ⟨wr.heap.size, 3, none⟩ = some (.int .i64 xh) := (hb4.cell (by simp)).trans (by go_simp); clear hb4)
              | (go_at_call 95; refine (HADD.out _ (HR.out.below (bT (bA (Below.refl _ _) _) HB4.out) hsz)).mono ?_; rintro e w5 ⟨rfl, hr5, hg5⟩; have HG5 := Lib.hid hg5; have HR5 := Lib.hid hr5; clear hg5 hr5))
            go_roundw
            case rel => exact ⟨k + 1, M2, by go_num, hlt, HE.out, HR5.out, gT (gB HG.out (bT (bA (Below.refl _ _) _) HB4.out)) HG5.out⟩
            case measure => simp [intOf]; omega
    · obtain rfl : k = ws.length := by omega
      have hra : RowAt wr w.heap.size 0 Z49 := ⟨(HG.out.block _ (by have := HRA.out.lt; omega) (by simp; omega)).trans HRA.out.row, HRA.out.len⟩
      have HRA2 := Lib.hid hra; clear hra
      go_wp2_with (first
        | (refine wpList_load_kv rfl _ rfl _ n M rfl HR.out ?_)
        | (refine wpList_store_kv rfl _ _ rfl _ n 0 M Z49 rfl rfl HR.out.len HRA2.out ?_; intro w4 hr4 ho4; have HR4 := Lib.hid hr4; have HO4 := Lib.hid ho4; clear hr4 ho4))
      exact bodyPost_ret (v := .tuple #[.agg (kv n M), .bool true]) (results_kv_tmp Try.results69 _ rfl HR4.out) rfl ⟨by rw [HM.out]; rfl, only_below (bG HB.out HG.out (by omega)) HO4.out (Nat.le_refl _)⟩
end Go.Proofs.Ytmfbfcknnjbabaa

namespace Go.Proofs.Ytmfbfcknnjbabaa
open Go.RowKit

set_option maxRecDepth 100000 in
set_option maxHeartbeats 2000000 in
theorem hearSome_any (n : Nat) (ws : List Wd) (S : Nat → Bool) (p : Option Addr) (c : Nat) (w : World) (a : Addr) (hl : ws.length ≤ 1000) (hw : ∀ x ∈ ws, x.f < 7 ∧ x.t < 7) (hp : WordsAt w w.heap.size p ws)
    (hs : ∀ (k : Nat) (W : World), k < ws.length → Below w.heap.size w W → Calls Try.prog 67 #[.int .i64 k, .pointer (some a)] W fun e w' => e = .returned (.bool (S k)) ∧ Below W.heap.size W w') :
    Calls Try.prog 69 #[.int .i64 n, .slice p ws.length c, .func (.func 67) #[] #[.pointer (some a)]] w fun e w' =>
      e = .returned (.tuple #[.agg (kv (hres n (hTo S ws ws.length)).1 (hres n (hTo S ws ws.length)).2.1), .bool (hres n (hTo S ws ws.length)).2.2]) ∧ Below w.heap.size w w' := by
  have HP := Lib.hid hp; have HS := Lib.hid hs; have HW := Lib.hid hw; clear hp hs hw
  have tok1 : True := trivial
  go_enter Try.func69, Try.ntmps69
  go_wp2_with (first
    | (have _t := tok1; refine wpList_alloc_kv rfl rfl ?_; clear tok1 _t; intro w1 hr1 hb1 hz1; have HR1 := Lib.hid hr1; have HB1 := Lib.hid hb1; have HZ1 := Lib.hid hz1; clear hr1 hb1 hz1)
    | (refine wpList_alloc_kv rfl rfl ?_; intro w2 hr2 hb2 hz2; have HR2 := Lib.hid hr2; have HB2 := Lib.hid hb2; have HZ2 := Lib.hid hz2; clear hr2 hb2 hz2)
    | (go_at_call 94; refine (unheard_any _ _).mono ?_; rintro e wu ⟨rfl, hbu⟩; have HBU := Lib.hid hbu; clear hbu)
    | (refine wpList_store_kv rfl _ _ rfl _ n 0 U49 Z49 rfl rfl (uIter_len 49) HR2.out ?_; intro w3 hr3 ho3; have HR3 := Lib.hid hr3; have HO3 := Lib.hid ho3; clear hr3 ho3))
  have z1 := HZ1.out
  have z2 := HZ2.out
  have zu := HBU.out.size
  have z3 := HO3.out.size
  have HB := Lib.hid (only_below (bT (bT HB1.out HBU.out) HB2.out) HO3.out (by omega)); have HRA := Lib.hid (((HR1.out.below HBU.out (by omega)).below HB2.out (by omega)).only HO3.out (by omega))
  obtain ⟨g, hg⟩ : ∃ g, g = wu.heap.size := ⟨_, rfl⟩
  rw [← hg]
  have HR3' : Hid (RowAt w3 g n U49) := by rw [hg]; exact HR3.out
  have zz : g < w3.heap.size := by omega
  have zn : w.heap.size < g := by omega
  clear HR1 HB1 HZ1 HR2 HB2 HZ2 HO3 HBU HR3 z1 z2 z3 zu hg
  go_loopw [15] (fun i wr => ∃ (k : Nat) (M : List Int), i = .int .i64 k ∧ k ≤ ws.length ∧ hTo S ws k = some M ∧ RowAt wr g n M ∧ w3.grownBy wr (some g)) (fun i _ => ws.length - (intOf i).toNat)
  case atStart => exact ⟨0, U49, rfl, Nat.zero_le _, rfl, HR3'.out, gR _ _⟩
  case round =>
    obtain ⟨k, M, rfl, hk, hm, hr, hgr⟩ := hrel
    have HM := Lib.hid hm; have HR := Lib.hid hr; have HG := Lib.hid hgr; clear hm hr hgr
    have hsz : g < wr.heap.size := HR.out.lt
    by_cases hlt : k < ws.length
    · obtain ⟨gw, rfl, hgw, hcell⟩ := HP.out.at_ (by omega)
      obtain ⟨f0, f1, f2, f3⟩ := flat4_at ws k hlt
      have tr : ∀ j, j < ws.length * 4 → wr.cell? ⟨gw, j, none⟩ = (flat4 ws)[j]? := fun j hj => ((gcell HG.out (by have := HB.out.size; omega) (by omega)).trans (HB.out.cell hgw)).trans (hcell j hj)
      have e0 := (tr (k * 4) (by omega)).trans f0
      have e1 := (tr (k * 4 + 1) (by omega)).trans f1
      have e2 := (tr (k * 4 + 2) (by omega)).trans f2
      have e3 := (tr (k * 4 + 3) (by omega)).trans f3
      obtain ⟨wf, wt⟩ := HW.out ws[k] (List.getElem_mem hlt)
      have hx : ws[k]? = some ws[k] := List.getElem?_eq_getElem hlt
      have HX := Lib.hid hx; clear hx
      obtain ⟨⟨xf, xt, xl, xh⟩, hxx⟩ : ∃ x, ws[k] = x := ⟨_, rfl⟩
      have HX2 : Hid (ws[k]? = some ⟨xf, xt, xl, xh⟩) := by show _ = _; rw [HX.out, hxx]
      rw [hxx] at e0 e1 e2 e3 wf wt
      dsimp only at e0 e1 e2 e3 wf wt
      clear tr f0 f1 f2 f3 hxx HX hcell
      have hbw : ∀ W, Below wr.heap.size wr W → Below w.heap.size w W := fun W hW => bT (bG HB.out HG.out (by omega)) hW
      have HBW := Lib.hid hbw; clear hbw
      have hs1 := HS.out k (wr.alloc (.cells #[.int .i64 xf, .int .i64 xt, .int .i64 xl, .int .i64 xh] 111)) hlt (HBW.out _ (bA (Below.refl _ _) _))
      have HS1 := Lib.hid hs1; clear hs1
      cases hS : S k with
      | false =>
        rw [hS] at HS1
        have HE : Hid (hTo S ws (k + 1) = some M) := by show _ = _; simp [hTo, HM.out, hS]
        clear hS
        go_wp2_with (go_at_call 67; refine HS1.out.mono ?_; rintro e w4 ⟨rfl, hb4⟩; have HB4 := Lib.hid hb4; clear hb4)
        go_roundw
        case rel => exact ⟨k + 1, M, by go_num, hlt, HE.out, HR.out.below (bT (bA (Below.refl _ _) _) HB4.out) hsz, gB HG.out (bT (bA (Below.refl _ _) _) HB4.out)⟩
        case measure => simp [intOf]; omega
      | true =>
        rw [hS] at HS1
        have hadd : ∀ W, RowAt W g n M → Calls Try.prog 95 #[.pointer (some ⟨g, 0, none⟩), .agg #[.int .i64 xf, .int .i64 xt, .int .i64 xl, .int .i64 xh]] W fun e w' => e = .returned (.bool (addW M xf xt xl xh).1) ∧ RowAt w' g n (addW M xf xt xl xh).2 ∧ W.grownBy w' (some g) := fun W hW => add_any n M g xf xt xl xh W wf wt hW
        cases hA : addW M xf xt xl xh with
        | mk b2 M2 =>
          rw [hA] at hadd
          dsimp only at hadd
          have HADD := Lib.hid hadd
          cases b2 with
          | false =>
            have hE : hTo S ws (k + 1) = none := by simp [hTo, HM.out, hS, HX2.out, hA]
            have hE2 : hTo S ws ws.length = none := by have := hTo_none hE (ws.length - (k + 1)); rwa [show k + 1 + (ws.length - (k + 1)) = ws.length by omega] at this
            have HE := Lib.hid hE2
            clear hS hA hE hE2 hadd
            go_wp2_with (first
              | (go_at_call 67; refine HS1.out.mono ?_; rintro e w4 ⟨rfl, hb4⟩; have HB4 := Lib.hid hb4; have q0 : w4.cell? ⟨wr.heap.size, 0, none⟩ = some (.int .i64 xf) := (hb4.cell (by simp)).trans (by go_simp); have q1 : w4.cell? ⟨wr.heap.size, 1, none⟩ = some (.int .i64 xt) := (hb4.cell (by simp)).trans (by go_simp); have q2 : w4.cell? ⟨wr.heap.size, 2, none⟩ = some (.int .i64 xl) := (hb4.cell (by simp)).trans (by go_simp); have q3 : w4.cell? ⟨wr.heap.size, 3, none⟩ = some (.int .i64 xh) := (hb4.cell (by simp)).trans (by go_simp); clear hb4)
              | (go_at_call 95; refine (HADD.out _ (HR.out.below (bT (bA (Below.refl _ _) _) HB4.out) hsz)).mono ?_; rintro e w5 ⟨rfl, hr5, hg5⟩; have hra : RowAt w5 w.heap.size 0 Z49 := (⟨(hg5.block _ (by have := HB4.out.size; simp at this; omega) (by simp; omega)).trans (((bT (bA (Below.refl _ _) _) HB4.out).block _ (by omega)).trans ((HG.out.block _ (by have := HRA.out.lt; omega) (by simp; omega)).trans HRA.out.row)), HRA.out.len⟩); have HRA2 := Lib.hid hra; have HG5 := Lib.hid hg5; have HR5 := Lib.hid hr5; clear hra hg5 hr5)
              | (refine wpList_build_kv0 rfl rfl ?_)
              | (refine wpList_store_kv rfl _ _ rfl _ 0 0 Z49 Z49 rfl rfl rfl HRA2.out ?_; intro w6 hr6 ho6; have HR6 := Lib.hid hr6; have HO6 := Lib.hid ho6; clear hr6 ho6))
            have hb6 : Below w.heap.size w w6 := only_below (bG (HBW.out _ (bT (bA (Below.refl _ _) _) HB4.out)) HG5.out (by omega)) HO6.out (Nat.le_refl _)
            exact bodyPost_ret (v := .tuple #[.agg (kv 0 Z49), .bool false]) (results_kv_tmp Try.results69 _ rfl HR6.out) rfl ⟨by rw [HE.out]; rfl, hb6⟩
          | true =>
            have HE : Hid (hTo S ws (k + 1) = some M2) := by show _ = _; simp [hTo, HM.out, hS, HX2.out, hA]
            clear hS hA hadd
            go_wp2_with (first
              | (go_at_call 67; refine HS1.out.mono ?_; rintro e w4 ⟨rfl, hb4⟩; have HB4 := Lib.hid hb4; have q0 : w4.cell? ⟨wr.heap.size, 0, none⟩ = some (.int .i64 xf) := (hb4.cell (by simp)).trans (by go_simp); have q1 : w4.cell? ⟨wr.heap.size, 1, none⟩ = some (.int .i64 xt) := (hb4.cell (by simp)).trans (by go_simp); have q2 : w4.cell? ⟨wr.heap.size, 2, none⟩ = some (.int .i64 xl) := (hb4.cell (by simp)).trans (by go_simp); have q3 : w4.cell? ⟨wr.heap.size, 3, none⟩ = some (.int .i64 xh) := (hb4.cell (by simp)).trans (by go_simp); clear hb4)
              | (go_at_call 95; refine (HADD.out _ (HR.out.below (bT (bA (Below.refl _ _) _) HB4.out) hsz)).mono ?_; rintro e w5 ⟨rfl, hr5, hg5⟩; have HG5 := Lib.hid hg5; have HR5 := Lib.hid hr5; clear hg5 hr5))
            go_roundw
            case rel => exact ⟨k + 1, M2, by go_num, hlt, HE.out, HR5.out, gT (gB HG.out (bT (bA (Below.refl _ _) _) HB4.out)) HG5.out⟩
            case measure => simp [intOf]; omega
    · obtain rfl : k = ws.length := by omega
      have hra : RowAt wr w.heap.size 0 Z49 := ⟨(HG.out.block _ (by have := HRA.out.lt; omega) (by simp; omega)).trans HRA.out.row, HRA.out.len⟩
      have HRA2 := Lib.hid hra; clear hra
      go_wp2_with (first
        | (refine wpList_load_kv rfl _ rfl _ n M rfl HR.out ?_)
        | (refine wpList_store_kv rfl _ _ rfl _ n 0 M Z49 rfl rfl HR.out.len HRA2.out ?_; intro w4 hr4 ho4; have HR4 := Lib.hid hr4; have HO4 := Lib.hid ho4; clear hr4 ho4))
      exact bodyPost_ret (v := .tuple #[.agg (kv n M), .bool true]) (results_kv_tmp Try.results69 _ rfl HR4.out) rfl ⟨by rw [HM.out]; rfl, only_below (bG HB.out HG.out (by omega)) HO4.out (Nat.le_refl _)⟩
end Go.Proofs.Ytmfbfcknnjbabaa
