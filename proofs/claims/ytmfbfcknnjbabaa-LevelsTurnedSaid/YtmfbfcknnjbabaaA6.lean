/- The contracts of Huge, valid, Check of levels, for any town. The contract of isTruth, for any valid town and list. The contract of IsTruth, for any valid town and list. -/
import Derived.Test.YtmfbfcknnjbabaaA3
set_option linter.unusedSimpArgs false
set_option linter.unusedVariables false
namespace Go.Proofs.Ytmfbfcknnjbabaa
open Go.RowKit

theorem isWellP_ex (W n : Int) (s r : Value) (w : World) :
    Calls Try.prog 87 #[.agg #[.int .i64 W, s, r], .int .i64 n] w fun e w' => e = .returned (.bool (within n 0 (W-1))) ∧ w.alloc (.cells #[.int .i64 W, s, r] 25) = w' := by
  go_enter Try.func87, Try.ntmps87
  go_wp2
  · have h : 0 ≤ n := by assumption
    go_ret
    exact ⟨ret_b (by simp [within, h]; omega), rfl⟩
  · have h : n < 0 := by assumption
    go_ret
    exact ⟨ret_b (by simp [within]; omega), rfl⟩

def spanB (lo hi least : Int) : Bool := decide (least ≤ lo ∧ lo ≤ hi ∧ hi ≤ 99)
theorem isSpan_ex (lo hi least : Int) (w : World) :
    Calls Try.prog 88 #[.int .i64 lo, .int .i64 hi, .int .i64 least] w fun e w' => e = .returned (.bool (spanB lo hi least)) ∧ w = w' := by
  by_cases h1 : least ≤ lo
  · by_cases h2 : lo ≤ hi
    · go_enter Try.func88, Try.ntmps88
      go_wp2
      go_ret
      exact ⟨ret_b (by simp [spanB, h1, h2]), rfl⟩
    · go_enter Try.func88, Try.ntmps88
      go_wp2
      go_ret
      exact ⟨ret_b (by simp [spanB]; omega), rfl⟩
  · go_enter Try.func88, Try.ntmps88
    go_wp2
    go_ret
    exact ⟨ret_b (by simp [spanB]; omega), rfl⟩

theorem sOk_eq (W : Int) (x : Snd) : sOk W x = (within x.well 0 (W-1) && spanB x.low x.high 0) := by
  rw [Bool.eq_iff_iff]; simp [sOk, within, spanB]; omega
theorem rOk_eq (W : Int) (x : Slp) : rOk W x = (within x.a 0 (W-1) && (within x.b 0 (W-1) && (!(x.a == x.b) && spanB x.low x.high (-99)))) := by
  rw [Bool.eq_iff_iff]; simp [rOk, within, spanB]; omega

theorem huge_any (W : Int) (p q : Option Addr) (m n c d : Nat) (w : World) :
    Calls Try.prog 15 #[.agg #[.int .i64 W, .slice p m c, .slice q n d]] w fun e w' => e = .returned (.bool (decide (40 < m ∨ 40 < n))) ∧ Below w.heap.size w w' := by
  by_cases h1 : 40 < m
  · have d1 : decide ((40 : Int) < (m : Int)) = true := decide_eq_true (by omega)
    go_enter Try.func15, Try.ntmps15
    go_wp2
    go_ret
    exact ⟨ret_b (by simp [h1]), bA (Below.refl _ _) _⟩
  · have d1 : decide ((40 : Int) < (m : Int)) = false := decide_eq_false (by omega)
    go_enter Try.func15, Try.ntmps15
    go_wp2
    go_ret
    exact ⟨ret_b (by rw [Bool.eq_iff_iff]; simp; omega), bA (Below.refl _ _) _⟩

theorem vk_s {T : Town} (h : T.s.all (sOk T.W) = false) : false = T.ok := by simp [Town.ok, h]
theorem vk_r {T : Town} (h : T.r.all (rOk T.W) = false) : false = T.ok := by simp [Town.ok, h]
theorem vk_t {T : Town} (h0 : within T.W 0 6 = true) (h1 : T.s.length ≤ 8) (h2 : T.r.length ≤ 8) (h3 : T.s.all (sOk T.W) = true) (h4 : T.r.all (rOk T.W) = true) : true = T.ok := by simp [Town.ok, h0, h1, h2, h3, h4]

set_option maxHeartbeats 400000 in
theorem valid_any (T : Town) (p q : Option Addr) (c d : Nat) (w : World) (hs : T.s.length ≤ 1000000) (hr : T.r.length ≤ 1000000) (ht : TownIn w w.heap.size T p q) :
    Calls Try.prog 56 #[.agg #[.int .i64 T.W, .slice p T.s.length c, .slice q T.r.length d]] w fun e w' => e = .returned (.bool T.ok) ∧ Below w.heap.size w w' := by
  have HT := Lib.hid ht; clear ht
  by_cases hw2 : 0 ≤ T.W
  · by_cases hw3 : T.W ≤ 6
    · have hw1 : within T.W 0 6 = true := within_tt hw2 hw3
      have W1 := Lib.hid hw1; clear hw1
      by_cases h1 : T.s.length ≤ 8
      · by_cases h2 : T.r.length ≤ 8
        · have d1 : decide ((8 : Int) < (T.s.length : Int)) = false := decide_eq_false (by omega)
          have d2 : decide ((8 : Int) < (T.r.length : Int)) = false := decide_eq_false (by omega)
          have d3 : decide (T.W < 0) = false := decide_eq_false (by omega)
          have d4 : decide (6 < T.W) = false := decide_eq_false (by omega)
          go_enter Try.func56, Try.ntmps56
          go_wp2
          obtain ⟨w1, hw1'⟩ : ∃ w1, w1 = w.alloc (Obj.cells #[Value.int IntKind.i64 T.W, Value.slice p T.s.length c, Value.slice q T.r.length d] 25) := ⟨_, rfl⟩
          rw [← hw1']
          have HB : Below w.heap.size w w1 := by rw [hw1']; exact (Below.refl _ _).alloc (Nat.le_refl _) _
          have hsz : w1.heap.size = w.heap.size + 1 := by rw [hw1']; simp
          have k0 : w1.cell? ⟨w.heap.size, 0, none⟩ = some (.int .i64 T.W) := by rw [hw1']; go_simp
          have k1 : w1.cell? ⟨w.heap.size, 1, none⟩ = some (.slice p T.s.length c) := by rw [hw1']; go_simp
          have k2 : w1.cell? ⟨w.heap.size, 2, none⟩ = some (.slice q T.r.length d) := by rw [hw1']; go_simp
          clear hw1'
          have HT1 := Lib.hid ((HT.out.below HB).mono (B' := w1.heap.size) (by omega)); clear HT
          have HB1 := Lib.hid HB; clear HB
          have HS := Lib.hid hsz; clear hsz
          go_loopw [28] (fun i wr => ∃ k : Nat, i = .int .i64 k ∧ k ≤ T.s.length ∧ SPre T.W T.s k ∧ Below w1.heap.size w1 wr) (fun i _ => T.s.length - (intOf i).toNat)
          case atStart => exact ⟨0, rfl, Nat.zero_le _, rfl, Below.refl _ _⟩
          case round =>
            obtain ⟨k, rfl, hk, hp, hb⟩ := hrel
            have HP := Lib.hid hp; clear hp
            have HBB := Lib.hid hb; clear hb
            have hz := HS.out
            have g0 := (HBB.out.cell (p := ⟨w.heap.size, 0, none⟩) (by simp; omega)).trans k0
            have g1 := (HBB.out.cell (p := ⟨w.heap.size, 1, none⟩) (by simp; omega)).trans k1
            have g2 := (HBB.out.cell (p := ⟨w.heap.size, 2, none⟩) (by simp; omega)).trans k2
            have hz2 : w.heap.size < wr.heap.size := by have := HBB.out.size; omega
            clear hz
            by_cases hlt : k < T.s.length
            · obtain ⟨b, o, rfl, hbl, hsn⟩ := (HT1.out.below HBB.out).s (by omega)
              have e0 := hsn.c0 k hlt
              have e1 := hsn.c1 k hlt
              have e2 := hsn.c2 k hlt
              clear hsn
              go_wp2_with (first | (go_at_call 88; refine (isSpan_ex _ _ _ _).mono ?_; rintro e w' ⟨rfl, rfl⟩) | (go_at_call 87; refine (isWellP_ex _ _ _ _ _).mono ?_; rintro e w' ⟨rfl, rfl⟩))
              all_goals first
                | (go_ret; have f : sOk T.W T.s[k] = false := by rw [sOk_eq]; simp_all
                   exact ⟨ret_b (vk_s (sBad hlt f)), by repeat (first | exact bT HB1.out HBB.out | refine bA ?_ _)⟩)
                | (have f : sOk T.W T.s[k] = true := by rw [sOk_eq]; simp_all
                   go_roundw
                   case rel => exact ⟨k + 1, by go_num, hlt, sPre_succ HP.out hlt f, by repeat (first | exact HBB.out | refine bA ?_ _)⟩
                   case measure => simp [intOf]; omega)
            · have hall := sPre_all HP.out (by omega)
              have HA := Lib.hid hall; clear hall HP
              have HB2 := Lib.hid (bT HB1.out HBB.out); clear HB1
              go_wp2
              have HT2 := Lib.hid ((HT1.out.below HBB.out).mono (B' := wr.heap.size) HBB.out.size); clear HT1 HBB
              obtain ⟨w2, rfl⟩ : ∃ w2, w2 = wr := ⟨_, rfl⟩
              go_loopw [49] (fun i wr => ∃ k : Nat, i = .int .i64 k ∧ k ≤ T.r.length ∧ RPre T.W T.r k ∧ Below w2.heap.size w2 wr) (fun i _ => T.r.length - (intOf i).toNat)
              case atStart => exact ⟨0, rfl, Nat.zero_le _, rfl, Below.refl _ _⟩
              case round =>
                clear hk hlt
                obtain ⟨k, rfl, hk, hp, hb⟩ := hrel
                have HP := Lib.hid hp; clear hp
                have HBB := Lib.hid hb; clear hb
                have hz3 : w.heap.size < wr.heap.size := by have := HBB.out.size; omega
                have j0 := (HBB.out.cell (p := ⟨w.heap.size, 0, none⟩) hz2).trans g0
                have j1 := (HBB.out.cell (p := ⟨w.heap.size, 1, none⟩) hz2).trans g1
                have j2 := (HBB.out.cell (p := ⟨w.heap.size, 2, none⟩) hz2).trans g2
                clear g0 g1 g2 k0 k1 k2
                by_cases hlt : k < T.r.length
                · obtain ⟨b, o, rfl, hbl, hsn⟩ := (HT2.out.below HBB.out).r (by omega)
                  have e0 := hsn.c0 k hlt
                  have e1 := hsn.c1 k hlt
                  have e2 := hsn.c2 k hlt
                  have e3 := hsn.c3 k hlt
                  clear hsn
                  go_wp2_with (first | (go_at_call 88; refine (isSpan_ex _ _ _ _).mono ?_; rintro e w' ⟨rfl, rfl⟩) | (go_at_call 87; refine (isWellP_ex _ _ _ _ _).mono ?_; rintro e w' ⟨rfl, rfl⟩))
                  all_goals first
                    | (go_ret; have f : rOk T.W T.r[k] = false := by rw [rOk_eq]; simp_all
                       exact ⟨ret_b (vk_r (rBad hlt f)), by repeat (first | exact bT HB2.out HBB.out | refine bA ?_ _)⟩)
                    | (have f : rOk T.W T.r[k] = true := by rw [rOk_eq]; simp_all
                       go_roundw
                       case rel => exact ⟨k + 1, by go_num, hlt, rPre_succ HP.out hlt f, by repeat (first | exact HBB.out | refine bA ?_ _)⟩
                       case measure => simp [intOf]; omega)
                · have hall := rPre_all HP.out (by omega)
                  go_wp2
                  go_ret
                  exact ⟨ret_b (vk_t W1.out h1 h2 HA.out hall), bT HB2.out HBB.out⟩
        · have d1 : decide ((8 : Int) < (T.s.length : Int)) = false := decide_eq_false (by omega)
          have d2 : decide ((8 : Int) < (T.r.length : Int)) = true := decide_eq_true (by omega)
          go_enter Try.func56, Try.ntmps56
          go_wp2
          go_ret
          exact ⟨ret_b (by simp [Town.ok, h2]), bA (Below.refl _ _) _⟩
      · have d1 : decide ((8 : Int) < (T.s.length : Int)) = true := decide_eq_true (by omega)
        go_enter Try.func56, Try.ntmps56
        go_wp2
        go_ret
        exact ⟨ret_b (by simp [Town.ok, h1]), bA (Below.refl _ _) _⟩
    · have hw1 : within T.W 0 6 = false := by simp [within]; omega
      go_enter Try.func56, Try.ntmps56
      go_wp2
      go_ret
      exact ⟨ret_b (by simp [Town.ok, hw1]), bA (Below.refl _ _) _⟩
  · have hw1 : within T.W 0 6 = false := by simp [within]; omega
    go_enter Try.func56, Try.ntmps56
    go_wp2
    go_ret
    exact ⟨ret_b (by simp [Town.ok, hw1]), bA (Below.refl _ _) _⟩

theorem checkP_any (T : Town) (p q : Option Addr) (c d : Nat) (w : World) (hs : T.s.length ≤ 1000000) (hr : T.r.length ≤ 1000000) (ht : TownIn w w.heap.size T p q) :
    Calls Try.prog 20 #[.agg #[.int .i64 T.W, .slice p T.s.length c, .slice q T.r.length d]] w fun e w' => e = .returned (.int .i64 (vErr T.ok)) ∧ Below w.heap.size w w' := by
  obtain ⟨w1, hw1⟩ : ∃ w1, w1 = w.alloc (Obj.cells #[Value.int IntKind.i64 T.W, Value.slice p T.s.length c, Value.slice q T.r.length d] 25) := ⟨_, rfl⟩
  have hb : Below w.heap.size w w1 := by rw [hw1]; exact bA (Below.refl _ _) _
  have hv := valid_any T p q c d w1 hs hr ((ht.below hb).mono hb.size)
  rw [hw1] at hv
  have HV := Lib.hid hv; clear hv hb hw1 w1 ht
  by_cases hok : T.ok = true
  · rw [hok]
    go_enter Try.func20, Try.ntmps20
    go_wp2_with (go_at_call 56; refine HV.out.mono ?_; rintro e w' ⟨rfl, hb⟩; have HBB := Lib.hid hb; clear hb)
    go_ret
    exact ⟨rfl, bT (bA (Below.refl _ _) _) HBB.out⟩
  · have hok := Bool.eq_false_iff.2 hok
    rw [hok]
    go_enter Try.func20, Try.ntmps20
    go_wp2_with (go_at_call 56; refine HV.out.mono ?_; rintro e w' ⟨rfl, hb⟩; have HBB := Lib.hid hb; clear hb)
    go_ret
    exact ⟨rfl, bT (bA (Below.refl _ _) _) HBB.out⟩
end Go.Proofs.Ytmfbfcknnjbabaa

namespace Go.Proofs.Ytmfbfcknnjbabaa
open Go.RowKit

def AllTo {α : Type} (p : α → Bool) (l : List α) (k : Nat) : Prop := (l.take k).all p = true
theorem allTo_succ {α : Type} {p : α → Bool} {l : List α} {k : Nat} (h : AllTo p l k) (hk : k < l.length) (e : p l[k] = true) : AllTo p l (k + 1) := by
  unfold AllTo at *
  rw [List.take_add_one, List.getElem?_eq_getElem hk, List.all_append, h]; simpa using e
theorem allTo_all {α : Type} {p : α → Bool} {l : List α} {k : Nat} (h : AllTo p l k) (hk : l.length ≤ k) : l.all p = true := by
  unfold AllTo at h; rwa [List.take_of_length_le hk] at h
theorem allTo_bad {α : Type} {p : α → Bool} {l : List α} {k : Nat} (hk : k < l.length) (e : p l[k] = false) : l.all p = false := by
  rw [List.all_eq_false]; exact ⟨l[k], List.getElem_mem hk, by simp [e]⟩

def at0 (xs : List Int) (i : Int) : Int := xs[i.toNat]?.getD 0
def okX (x : Int) : Bool := within x 0 99
def okS (xs : List Int) (s : Snd) : Bool := within (at0 xs s.well) s.low s.high
def okR (xs : List Int) (s : Slp) : Bool := within (at0 xs s.b - at0 xs s.a) s.low s.high
def truth (T : Town) (xs : List Int) : Bool := decide ((xs.length : Int) = T.W) && (xs.all okX && (T.s.all (okS xs) && T.r.all (okR xs)))

theorem tr_len {T : Town} {xs : List Int} (h : ¬ (xs.length : Int) = T.W) : false = truth T xs := by simp [truth, h]
theorem tr_x {T : Town} {xs : List Int} (h : xs.all okX = false) : false = truth T xs := by simp [truth, h]
theorem tr_s {T : Town} {xs : List Int} (h : T.s.all (okS xs) = false) : false = truth T xs := by simp [truth, h]
theorem tr_r {T : Town} {xs : List Int} (h : T.r.all (okR xs) = false) : false = truth T xs := by simp [truth, h]
theorem tr_t {T : Town} {xs : List Int} (h : (xs.length : Int) = T.W) (h1 : xs.all okX = true) (h2 : T.s.all (okS xs) = true) (h3 : T.r.all (okR xs) = true) : true = truth T xs := by simp [truth, h, h1, h2, h3]

theorem ok_well {T : Town} (h : T.ok = true) {k : Nat} (hk : k < T.s.length) : 0 ≤ T.s[k].well ∧ T.s[k].well < T.W := by
  simp only [Town.ok, Bool.and_eq_true, List.all_eq_true] at h
  have := h.2.2.2.1 _ (List.getElem_mem hk)
  simp [sOk, within] at this; omega
theorem ok_ab {T : Town} (h : T.ok = true) {k : Nat} (hk : k < T.r.length) : (0 ≤ T.r[k].a ∧ T.r[k].a < T.W) ∧ (0 ≤ T.r[k].b ∧ T.r[k].b < T.W) := by
  simp only [Town.ok, Bool.and_eq_true, List.all_eq_true] at h
  have := h.2.2.2.2 _ (List.getElem_mem hk)
  simp [rOk, within] at this; omega
theorem ok_W {T : Town} (h : T.ok = true) : 0 ≤ T.W ∧ T.W ≤ 6 := by
  simp only [Town.ok, Bool.and_eq_true] at h
  have := h.1
  simp [within] at this; omega
theorem ok_len {T : Town} (h : T.ok = true) : T.s.length ≤ 8 ∧ T.r.length ≤ 8 := by
  simp only [Town.ok, Bool.and_eq_true] at h
  have h1 := h.2.1; have h2 := h.2.2.1
  simp at h1 h2; omega
theorem allX_at {xs : List Int} (h : xs.all okX = true) {i : Int} (h0 : 0 ≤ i) (h1 : i < xs.length) : 0 ≤ at0 xs i ∧ at0 xs i ≤ 99 := by
  rw [List.all_eq_true] at h
  have hl : i.toNat < xs.length := by omega
  have := h _ (List.getElem_mem hl)
  simp [okX, within] at this
  simp [at0, hl]; omega
theorem IntsAt.below {w w' : World} {B b o : Nat} {l : List Int} (h : IntsAt w B b o l) (hb : Below B w w') : IntsAt w' B b o l := ⟨h.lt, fun k hk => (hb.cell h.lt).trans (h.cell k hk)⟩
theorem IntsAt.mono {w : World} {B B' b o : Nat} {l : List Int} (h : IntsAt w B b o l) (hb : B ≤ B') : IntsAt w B' b o l := ⟨Nat.lt_of_lt_of_le h.lt hb, h.cell⟩
theorem IntsAt.at {w : World} {B b o : Nat} {l : List Int} (h : IntsAt w B b o l) {i : Int} (h0 : 0 ≤ i) (h1 : i < l.length) : w.cell? ⟨b, o + i.toNat, none⟩ = some (.int .i64 (at0 l i)) := h.cell _ (by omega)
theorem quiet_l {P : Program} {f : FuncId} {args : Array Value} {w : World} {n : Nat} {v : Value}
    (h : Calls P f args (w.drewN n) fun e w' => e = .returned v ∧ w.drewN n = w') : Calls P f args (w.drewN n) fun e w'' => e = .returned v ∧ ∃ m, w'' = w.drewN m :=
  h.mono fun _ _ ⟨he, hm⟩ => ⟨he, n, hm.symm⟩
theorem bool_of {a b : Bool} (h : a = b) : b = a := h.symm

set_option maxRecDepth 100000 in
set_option maxHeartbeats 800000 in
theorem isTruthP_any (T : Town) (p q : Option Addr) (c d : Nat) (xs : List Int) (x : Option Addr) (cx : Nat) (w : World) (hx : xs.length ≤ 1000000) (hok : T.ok = true) (ht : TownIn w w.heap.size T p q)
    (h1 : 0 < xs.length → ∃ b o, x = some ⟨b, o, none⟩ ∧ IntsAt w w.heap.size b o xs) :
    Calls Try.prog 57 #[.agg #[.int .i64 T.W, .slice p T.s.length c, .slice q T.r.length d], .slice x xs.length cx] w fun e w' => e = .returned (.bool (truth T xs)) ∧ Below w.heap.size w w' := by
  have HT := Lib.hid ht; clear ht
  have HX := Lib.hid h1; clear h1
  have HK := Lib.hid hok; clear hok
  obtain ⟨hW0, hW6⟩ := ok_W HK.out
  obtain ⟨hs8, hr8⟩ := ok_len HK.out
  by_cases hl : (xs.length : Int) = T.W
  · have db : ((xs.length : Int) != T.W) = false := by rw [bne_eq_false_iff_eq]; exact hl
    have hl1 : (xs.length : Int) ≤ T.W := by omega
    have hl2 : T.W ≤ (xs.length : Int) := by omega
    have HL := Lib.hid hl; clear hl
    go_enter Try.func57, Try.ntmps57
    go_wp2
    obtain ⟨w1, hw1'⟩ : ∃ w1, w1 = w.alloc (Obj.cells #[Value.int IntKind.i64 T.W, Value.slice p T.s.length c, Value.slice q T.r.length d] 25) := ⟨_, rfl⟩
    rw [← hw1']
    have HB : Below w.heap.size w w1 := by rw [hw1']; exact (Below.refl _ _).alloc (Nat.le_refl _) _
    have hsz : w1.heap.size = w.heap.size + 1 := by rw [hw1']; simp
    have k0 : w1.cell? ⟨w.heap.size, 0, none⟩ = some (.int .i64 T.W) := by rw [hw1']; go_simp
    have k1 : w1.cell? ⟨w.heap.size, 1, none⟩ = some (.slice p T.s.length c) := by rw [hw1']; go_simp
    have k2 : w1.cell? ⟨w.heap.size, 2, none⟩ = some (.slice q T.r.length d) := by rw [hw1']; go_simp
    clear hw1'
    have HT1 := Lib.hid ((HT.out.below HB).mono (B' := w1.heap.size) (by omega)); clear HT
    have HX1 : Hid (0 < xs.length → ∃ b o, x = some ⟨b, o, none⟩ ∧ IntsAt w1 w1.heap.size b o xs) := fun h => let ⟨b, o, e, a⟩ := HX.out h; ⟨b, o, e, (a.below HB).mono (by omega)⟩
    clear HX
    have HB1 := Lib.hid HB; clear HB
    have hsz2 : w.heap.size < w1.heap.size := by omega
    clear hsz
    go_loopw [20] (fun i wr => ∃ k : Nat, i = .int .i64 k ∧ k ≤ xs.length ∧ AllTo okX xs k ∧ Below w1.heap.size w1 wr) (fun i _ => xs.length - (intOf i).toNat)
    case atStart => exact ⟨0, rfl, Nat.zero_le _, rfl, Below.refl _ _⟩
    case round =>
      obtain ⟨k, rfl, hk, hp, hb⟩ := hrel
      have HP := Lib.hid hp; clear hp
      have HBB := Lib.hid hb; clear hb
      by_cases hlt : k < xs.length
      · obtain ⟨b, o, rfl, hi⟩ := HX1.out (by omega)
        have e0 := (hi.below HBB.out).cell k hlt
        clear hi k0 k1 k2
        go_wp2_with (go_at_call 49; refine (within_any _ _ _ _).mono ?_; rintro e w' ⟨rfl, rfl⟩)
        all_goals first
          | (go_ret; have f : okX xs[k] = false := by simp [okX, within]; omega
             exact ⟨ret_b (tr_x (allTo_bad hlt f)), bT HB1.out HBB.out⟩)
          | (have f : okX xs[k] = true := by simp [okX, within]; omega
             go_roundw
             case rel => exact ⟨k + 1, by go_num, hlt, allTo_succ HP.out hlt f, HBB.out⟩
             case measure => simp [intOf]; omega)
      · have hall := allTo_all HP.out (by omega)
        have HA := Lib.hid hall; clear hall HP
        have g0 := (HBB.out.cell (p := ⟨w.heap.size, 0, none⟩) hsz2).trans k0
        have g1 := (HBB.out.cell (p := ⟨w.heap.size, 1, none⟩) hsz2).trans k1
        have g2 := (HBB.out.cell (p := ⟨w.heap.size, 2, none⟩) hsz2).trans k2
        go_wp2
        clear hk hlt
        obtain ⟨wa, rfl⟩ : ∃ wa, wa = wr := ⟨_, rfl⟩
        clear g0 g1 g2
        go_loopw [34] (fun i wr => ∃ k : Nat, i = .int .i64 k ∧ k ≤ T.s.length ∧ AllTo (okS xs) T.s k ∧ Below w1.heap.size w1 wr) (fun i _ => T.s.length - (intOf i).toNat)
        case atStart => exact ⟨0, rfl, Nat.zero_le _, rfl, HBB.out⟩
        case round =>
          clear HBB
          obtain ⟨k, rfl, hk, hp, hb⟩ := hrel
          have HP := Lib.hid hp; clear hp
          have HBB := Lib.hid hb; clear hb
          have g0 := (HBB.out.cell (p := ⟨w.heap.size, 0, none⟩) hsz2).trans k0
          have g1 := (HBB.out.cell (p := ⟨w.heap.size, 1, none⟩) hsz2).trans k1
          have g2 := (HBB.out.cell (p := ⟨w.heap.size, 2, none⟩) hsz2).trans k2
          have hz2 : w.heap.size < wr.heap.size := Nat.lt_of_lt_of_le hsz2 HBB.out.size
          by_cases hlt : k < T.s.length
          · obtain ⟨b, o, rfl, hbl, hsn⟩ := (HT1.out.below HBB.out).s (by omega)
            have e0 := hsn.c0 k hlt
            have e1 := hsn.c1 k hlt
            have e2 := hsn.c2 k hlt
            obtain ⟨i0, i1⟩ := ok_well HK.out hlt
            have i2 : T.s[k].well < (xs.length : Int) := by omega
            have hb2 : b < wr.heap.size := Nat.lt_of_lt_of_le hbl HBB.out.size
            obtain ⟨bx, ox, rfl, hi⟩ := HX1.out (by omega)
            have hbx : bx < wr.heap.size := Nat.lt_of_lt_of_le hi.lt HBB.out.size
            have e4 := (hi.below HBB.out).at i0 i2
            clear hsn hi k0 k1 k2 g0 g2
            go_wp2
            skip
            all_goals first
              | (go_ret; have f : okS xs T.s[k] = false := by simp [okS, within]; omega
                 exact ⟨ret_b (tr_s (allTo_bad hlt f)), by repeat (first | exact bT HB1.out HBB.out | refine bA ?_ _ | refine bD ?_ _)⟩)
              | (have f : okS xs T.s[k] = true := by simp [okS, within]; omega
                 go_roundw
                 case rel => exact ⟨k + 1, by go_num, hlt, allTo_succ HP.out hlt f, by repeat (first | exact HBB.out | refine bA ?_ _ | refine bD ?_ _)⟩
                 case measure => simp [intOf]; omega)
          · have hall := allTo_all HP.out (by omega)
            have HA2 := Lib.hid hall; clear hall HP
            go_wp2
            clear hk hlt
            obtain ⟨wa, rfl⟩ : ∃ wa, wa = wr := ⟨_, rfl⟩
            clear g0 g1 g2 hz2
            go_loopw [57] (fun i wr => ∃ k : Nat, i = .int .i64 k ∧ k ≤ T.r.length ∧ AllTo (okR xs) T.r k ∧ Below w1.heap.size w1 wr) (fun i _ => T.r.length - (intOf i).toNat)
            case atStart => exact ⟨0, rfl, Nat.zero_le _, rfl, HBB.out⟩
            case round =>
              clear HBB
              obtain ⟨k, rfl, hk, hp, hb⟩ := hrel
              have HP := Lib.hid hp; clear hp
              have HBB := Lib.hid hb; clear hb
              have g0 := (HBB.out.cell (p := ⟨w.heap.size, 0, none⟩) hsz2).trans k0
              have g1 := (HBB.out.cell (p := ⟨w.heap.size, 1, none⟩) hsz2).trans k1
              have g2 := (HBB.out.cell (p := ⟨w.heap.size, 2, none⟩) hsz2).trans k2
              have hz2 : w.heap.size < wr.heap.size := Nat.lt_of_lt_of_le hsz2 HBB.out.size
              by_cases hlt : k < T.r.length
              · obtain ⟨b, o, rfl, hbl, hsn⟩ := (HT1.out.below HBB.out).r (by omega)
                have e0 := hsn.c0 k hlt
                have e1 := hsn.c1 k hlt
                have e2 := hsn.c2 k hlt
                have e3 := hsn.c3 k hlt
                obtain ⟨⟨i0, i1⟩, j0, j1⟩ := ok_ab HK.out hlt
                have i2 : T.r[k].a < (xs.length : Int) := by omega
                have j2 : T.r[k].b < (xs.length : Int) := by omega
                have hb2 : b < wr.heap.size := Nat.lt_of_lt_of_le hbl HBB.out.size
                obtain ⟨bx, ox, rfl, hi⟩ := HX1.out (by omega)
                have hbx : bx < wr.heap.size := Nat.lt_of_lt_of_le hi.lt HBB.out.size
                have e4 := (hi.below HBB.out).at i0 i2
                have e5 := (hi.below HBB.out).at j0 j2
                obtain ⟨m0, m1⟩ := allX_at HA.out i0 i2
                obtain ⟨m2, m3⟩ := allX_at HA.out j0 j2
                clear hsn hi k0 k1 k2 g0 g1
                go_wp2
                go_quiet (fail)
                go_wp2
                all_goals first
                  | (go_ret; have f : okR xs T.r[k] = false := by simp [okR, within]; omega
                     exact ⟨ret_b (tr_r (allTo_bad hlt f)), by repeat (first | exact bT HB1.out HBB.out | refine bA ?_ _ | refine bD ?_ _)⟩)
                  | (have f : okR xs T.r[k] = true := by simp [okR, within]; omega
                     go_roundw
                     case rel => exact ⟨k + 1, by go_num, hlt, allTo_succ HP.out hlt f, by repeat (first | exact HBB.out | refine bA ?_ _ | refine bD ?_ _)⟩
                     case measure => simp [intOf]; omega)
              · have hall := allTo_all HP.out (by omega)
                go_wp2
                go_ret
                exact ⟨ret_b (tr_t HL.out HA.out HA2.out hall), bT HB1.out HBB.out⟩
  · have db : ((xs.length : Int) != T.W) = true := by rw [bne_iff_ne]; exact hl
    go_enter Try.func57, Try.ntmps57
    go_wp2
    go_ret
    exact ⟨ret_b (tr_len hl), bA (Below.refl _ _) _⟩
end Go.Proofs.Ytmfbfcknnjbabaa

namespace Go.Proofs.Ytmfbfcknnjbabaa
open Go.RowKit

set_option maxRecDepth 100000 in
set_option maxHeartbeats 800000 in
theorem isTruthR_any (T : Town) (p q : Option Addr) (c d : Nat) (xs : List Int) (x : Option Addr) (cx : Nat) (w : World) (hx : xs.length ≤ 1000000) (hok : T.ok = true) (ht : TownIn w w.heap.size T p q)
    (h1 : 0 < xs.length → ∃ b o, x = some ⟨b, o, none⟩ ∧ IntsAt w w.heap.size b o xs) :
    Calls Try.prog 46 #[.agg #[.int .i64 T.W, .slice p T.s.length c, .slice q T.r.length d], .slice x xs.length cx] w fun e w' => e = .returned (.bool (truth T xs)) ∧ Below w.heap.size w w' := by
  have HT := Lib.hid ht; clear ht
  have HX := Lib.hid h1; clear h1
  have HK := Lib.hid hok; clear hok
  obtain ⟨hW0, hW6⟩ := ok_W HK.out
  obtain ⟨hs8, hr8⟩ := ok_len HK.out
  by_cases hl : (xs.length : Int) = T.W
  · have db : ((xs.length : Int) != T.W) = false := by rw [bne_eq_false_iff_eq]; exact hl
    have hl1 : (xs.length : Int) ≤ T.W := by omega
    have hl2 : T.W ≤ (xs.length : Int) := by omega
    have HL := Lib.hid hl; clear hl
    go_enter Try.func46, Try.ntmps46
    go_wp2
    obtain ⟨w1, hw1'⟩ : ∃ w1, w1 = w.alloc (Obj.cells #[Value.int IntKind.i64 T.W, Value.slice p T.s.length c, Value.slice q T.r.length d] 25) := ⟨_, rfl⟩
    rw [← hw1']
    have HB : Below w.heap.size w w1 := by rw [hw1']; exact (Below.refl _ _).alloc (Nat.le_refl _) _
    have hsz : w1.heap.size = w.heap.size + 1 := by rw [hw1']; simp
    have k0 : w1.cell? ⟨w.heap.size, 0, none⟩ = some (.int .i64 T.W) := by rw [hw1']; go_simp
    have k1 : w1.cell? ⟨w.heap.size, 1, none⟩ = some (.slice p T.s.length c) := by rw [hw1']; go_simp
    have k2 : w1.cell? ⟨w.heap.size, 2, none⟩ = some (.slice q T.r.length d) := by rw [hw1']; go_simp
    clear hw1'
    have HT1 := Lib.hid ((HT.out.below HB).mono (B' := w1.heap.size) (by omega)); clear HT
    have HX1 : Hid (0 < xs.length → ∃ b o, x = some ⟨b, o, none⟩ ∧ IntsAt w1 w1.heap.size b o xs) := fun h => let ⟨b, o, e, a⟩ := HX.out h; ⟨b, o, e, (a.below HB).mono (by omega)⟩
    clear HX
    have HB1 := Lib.hid HB; clear HB
    have hsz2 : w.heap.size < w1.heap.size := by omega
    clear hsz
    go_loopw [5] (fun i wr => ∃ k : Nat, i = .int .i64 k ∧ k ≤ xs.length ∧ AllTo okX xs k ∧ Below w1.heap.size w1 wr) (fun i _ => xs.length - (intOf i).toNat)
    case atStart => exact ⟨0, rfl, Nat.zero_le _, rfl, Below.refl _ _⟩
    case round =>
      obtain ⟨k, rfl, hk, hp, hb⟩ := hrel
      have HP := Lib.hid hp; clear hp
      have HBB := Lib.hid hb; clear hb
      by_cases hlt : k < xs.length
      · obtain ⟨b, o, rfl, hi⟩ := HX1.out (by omega)
        have e0 := (hi.below HBB.out).cell k hlt
        clear hi k0 k1 k2
        go_wp2_with (go_at_call 49; refine (within_any _ _ _ _).mono ?_; rintro e w' ⟨rfl, rfl⟩)
        all_goals first
          | (go_ret; have f : okX xs[k] = false := by simp_all [okX]
             exact ⟨ret_b (tr_x (allTo_bad hlt f)), bT HB1.out HBB.out⟩)
          | (have f : okX xs[k] = true := by simp_all [okX]
             go_roundw
             case rel => exact ⟨k + 1, by go_num, hlt, allTo_succ HP.out hlt f, HBB.out⟩
             case measure => simp [intOf]; omega)
      · have hall := allTo_all HP.out (by omega)
        have HA := Lib.hid hall; clear hall HP
        have g0 := (HBB.out.cell (p := ⟨w.heap.size, 0, none⟩) hsz2).trans k0
        have g1 := (HBB.out.cell (p := ⟨w.heap.size, 1, none⟩) hsz2).trans k1
        have g2 := (HBB.out.cell (p := ⟨w.heap.size, 2, none⟩) hsz2).trans k2
        go_wp2
        clear hk hlt
        obtain ⟨wa, rfl⟩ : ∃ wa, wa = wr := ⟨_, rfl⟩
        clear g0 g1 g2
        go_loopw [6] (fun i wr => ∃ k : Nat, i = .int .i64 k ∧ k ≤ T.s.length ∧ AllTo (okS xs) T.s k ∧ Below w1.heap.size w1 wr) (fun i _ => T.s.length - (intOf i).toNat)
        case atStart => exact ⟨0, rfl, Nat.zero_le _, rfl, HBB.out⟩
        case round =>
          clear HBB
          obtain ⟨k, rfl, hk, hp, hb⟩ := hrel
          have HP := Lib.hid hp; clear hp
          have HBB := Lib.hid hb; clear hb
          have g0 := (HBB.out.cell (p := ⟨w.heap.size, 0, none⟩) hsz2).trans k0
          have g1 := (HBB.out.cell (p := ⟨w.heap.size, 1, none⟩) hsz2).trans k1
          have g2 := (HBB.out.cell (p := ⟨w.heap.size, 2, none⟩) hsz2).trans k2
          have hz2 : w.heap.size < wr.heap.size := Nat.lt_of_lt_of_le hsz2 HBB.out.size
          by_cases hlt : k < T.s.length
          · obtain ⟨b, o, rfl, hbl, hsn⟩ := (HT1.out.below HBB.out).s (by omega)
            have e0 := hsn.c0 k hlt
            have e1 := hsn.c1 k hlt
            have e2 := hsn.c2 k hlt
            obtain ⟨i0, i1⟩ := ok_well HK.out hlt
            have i2 : T.s[k].well < (xs.length : Int) := by omega
            have hb2 : b < wr.heap.size := Nat.lt_of_lt_of_le hbl HBB.out.size
            obtain ⟨bx, ox, rfl, hi⟩ := HX1.out (by omega)
            have hbx : bx < wr.heap.size := Nat.lt_of_lt_of_le hi.lt HBB.out.size
            have e4 := (hi.below HBB.out).at i0 i2
            clear hsn hi k0 k1 k2 g0 g2
            go_wp2
            go_quiet ((go_at_call 49; exact quiet_l (within_any _ _ _ _)))
            go_wp2
            all_goals first
              | (go_ret; have f : okS xs T.s[k] = false := by simp_all [okS]
                 exact ⟨ret_b (tr_s (allTo_bad hlt f)), by repeat (first | exact bT HB1.out HBB.out | refine bA ?_ _ | refine bD ?_ _)⟩)
              | (have f : okS xs T.s[k] = true := by simp_all [okS]
                 go_roundw
                 case rel => exact ⟨k + 1, by go_num, hlt, allTo_succ HP.out hlt f, by repeat (first | exact HBB.out | refine bA ?_ _ | refine bD ?_ _)⟩
                 case measure => simp [intOf]; omega)
          · have hall := allTo_all HP.out (by omega)
            have HA2 := Lib.hid hall; clear hall HP
            go_wp2
            clear hk hlt
            obtain ⟨wa, rfl⟩ : ∃ wa, wa = wr := ⟨_, rfl⟩
            clear g0 g1 g2 hz2
            go_loopw [8] (fun i wr => ∃ k : Nat, i = .int .i64 k ∧ k ≤ T.r.length ∧ AllTo (okR xs) T.r k ∧ Below w1.heap.size w1 wr) (fun i _ => T.r.length - (intOf i).toNat)
            case atStart => exact ⟨0, rfl, Nat.zero_le _, rfl, HBB.out⟩
            case round =>
              clear HBB
              obtain ⟨k, rfl, hk, hp, hb⟩ := hrel
              have HP := Lib.hid hp; clear hp
              have HBB := Lib.hid hb; clear hb
              have g0 := (HBB.out.cell (p := ⟨w.heap.size, 0, none⟩) hsz2).trans k0
              have g1 := (HBB.out.cell (p := ⟨w.heap.size, 1, none⟩) hsz2).trans k1
              have g2 := (HBB.out.cell (p := ⟨w.heap.size, 2, none⟩) hsz2).trans k2
              have hz2 : w.heap.size < wr.heap.size := Nat.lt_of_lt_of_le hsz2 HBB.out.size
              by_cases hlt : k < T.r.length
              · obtain ⟨b, o, rfl, hbl, hsn⟩ := (HT1.out.below HBB.out).r (by omega)
                have e0 := hsn.c0 k hlt
                have e1 := hsn.c1 k hlt
                have e2 := hsn.c2 k hlt
                have e3 := hsn.c3 k hlt
                obtain ⟨⟨i0, i1⟩, j0, j1⟩ := ok_ab HK.out hlt
                have i2 : T.r[k].a < (xs.length : Int) := by omega
                have j2 : T.r[k].b < (xs.length : Int) := by omega
                have hb2 : b < wr.heap.size := Nat.lt_of_lt_of_le hbl HBB.out.size
                obtain ⟨bx, ox, rfl, hi⟩ := HX1.out (by omega)
                have hbx : bx < wr.heap.size := Nat.lt_of_lt_of_le hi.lt HBB.out.size
                have e4 := (hi.below HBB.out).at i0 i2
                have e5 := (hi.below HBB.out).at j0 j2
                obtain ⟨m0, m1⟩ := allX_at HA.out i0 i2
                obtain ⟨m2, m3⟩ := allX_at HA.out j0 j2
                clear hsn hi k0 k1 k2 g0 g1
                go_wp2
                go_quiet ((go_at_call 49; exact quiet_l (within_any _ _ _ _)))
                go_wp2
                all_goals first
                  | (go_ret; have f : okR xs T.r[k] = false := by simp_all [okR]
                     exact ⟨ret_b (tr_r (allTo_bad hlt f)), by repeat (first | exact bT HB1.out HBB.out | refine bA ?_ _ | refine bD ?_ _)⟩)
                  | (have f : okR xs T.r[k] = true := by simp_all [okR]
                     go_roundw
                     case rel => exact ⟨k + 1, by go_num, hlt, allTo_succ HP.out hlt f, by repeat (first | exact HBB.out | refine bA ?_ _ | refine bD ?_ _)⟩
                     case measure => simp [intOf]; omega)
              · have hall := allTo_all HP.out (by omega)
                go_wp2
                go_ret
                exact ⟨ret_b (tr_t HL.out HA.out HA2.out hall), bT HB1.out HBB.out⟩
  · have db : ((xs.length : Int) != T.W) = true := by rw [bne_iff_ne]; exact hl
    go_enter Try.func46, Try.ntmps46
    go_wp2
    go_ret
    exact ⟨ret_b (tr_len hl), bA (Below.refl _ _) _⟩
end Go.Proofs.Ytmfbfcknnjbabaa
