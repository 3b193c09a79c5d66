/- Walks of small functions. The contract of SameInts: it says whether two lists of numbers are equal, for any two. Towns in memory, and the contract of the specification's Check, for any town. -/
import Derived.Test.YtmfbfcknnjbabaaChecked
import Derived.WalkKit
import Derived.WalkSpells
import Derived.WalkLawsBesides
import Derived.BigQuiet
import Derived.Deep.QuietTactic
import Derived.Lib.Hide
import Derived.RowKit3
import Derived.WalkSmall
set_option linter.unusedSimpArgs false
set_option linter.unusedVariables false
namespace Go.Proofs.Ytmfbfcknnjbabaa
open Go.RowKit

theorem bA {a w : World} (h : Below a.heap.size a w) (o : Obj) : Below a.heap.size a (w.alloc o) := h.alloc h.size o
theorem bT {a b c : World} (h : Below a.heap.size a b) (k : Below b.heap.size b c) : Below a.heap.size a c := h.trans (k.mono h.size)
theorem bD {a w : World} (h : Below a.heap.size a w) (n : Nat) : Below a.heap.size a (w.drewN n) := ⟨h.os, h.tape, h.output, h.size, h.block⟩
theorem bd {a w : World} (h : Below a.heap.size a w) : Below a.heap.size a w.drew := ⟨h.os, h.tape, h.output, h.size, h.block⟩
theorem bS {a w : World} (h : Below a.heap.size a w) {p : Addr} (hp : a.heap.size ≤ p.block) (u : Value) : Below a.heap.size a (w.setCell p u) := h.setCell hp u

def within (n lo hi : Int) : Bool := decide (lo ≤ n ∧ n ≤ hi)
theorem within_tt {n lo hi : Int} (h : lo ≤ n) (h' : n ≤ hi) : within n lo hi = true := by simp [within, h, h']
theorem within_lo {n lo hi : Int} (h : n < lo) : within n lo hi = false := by simp [within]; omega
theorem within_eq {n lo hi : Int} (h : lo ≤ n) : within n lo hi = decide (n ≤ hi) := by simp [within, h]
theorem ret_b {a b : Bool} (h : a = b) : Ending.returned (.bool a) = .returned (.bool b) := by rw [h]

theorem within_any (n lo hi : Int) (w : World) :
    Calls Try.prog 49 #[.int .i64 n, .int .i64 lo, .int .i64 hi] w fun e w' => e = .returned (.bool (within n lo hi)) ∧ w = w' := by
  go_enter Try.func49, Try.ntmps49
  go_wp2
  · go_ret
    have h : lo ≤ n := by assumption
    exact ⟨ret_b (within_eq h).symm, rfl⟩
  · go_ret
    have h : n < lo := by assumption
    exact ⟨ret_b (within_lo h).symm, rfl⟩

/-- a town by value -/
def town (W : Int) (s r : Value) : Value := .agg #[.int .i64 W, s, r]

theorem isWell_any (W n : Int) (s r : Value) (w : World) (h0 : -100 ≤ W) (h1 : W ≤ 100) :
    Calls Try.prog 48 #[.agg #[.int .i64 W, s, r], .int .i64 n] w fun e w' => e = .returned (.bool (within n 0 (W-1))) ∧ Below w.heap.size w w' := by
  go_enter Try.func48, Try.ntmps48
  go_wp2_with (go_at_call 49; refine (within_any _ _ _ _).mono ?_; rintro e w' ⟨rfl, rfl⟩)
  go_ret
  exact ⟨rfl, (Below.refl _ _).alloc (Nat.le_refl _) _⟩
end Go.Proofs.Ytmfbfcknnjbabaa

namespace Go.Proofs.Ytmfbfcknnjbabaa
open Go.RowKit

/-- the slice value v reads as the ints xs, in blocks below B -/
structure IntsAt (w : World) (B : Nat) (b o : Nat) (xs : List Int) : Prop where
  lt : b < B
  cell : ∀ k, k < xs.length → w.cell? ⟨b, o + k, none⟩ = some (.int .i64 (xs[k]?.getD 0))

def Pre (xs ys : List Int) (k : Nat) : Prop := xs.take k = ys.take k
theorem pre_succ {xs ys : List Int} {k : Nat} (h : Pre xs ys k) (hx : k < xs.length) (hy : k < ys.length) (e : xs[k] = ys[k]) : Pre xs ys (k+1) := by
  unfold Pre at *
  rw [List.take_add_one, List.take_add_one, h, List.getElem?_eq_getElem hx, List.getElem?_eq_getElem hy, e]
theorem pre_all {xs ys : List Int} {k : Nat} (h : Pre xs ys k) (hx : xs.length ≤ k) (hy : ys.length ≤ k) : decide (xs = ys) = true := by
  unfold Pre at h
  rw [List.take_of_length_le hx, List.take_of_length_le hy] at h
  simp [h]
theorem ne_all {xs ys : List Int} {k : Nat} (hx : k < xs.length) (hy : k < ys.length) (e : (xs[k] != ys[k]) = true) : false = decide (xs = ys) := by
  symm; apply decide_eq_false; rintro rfl; simp at e

theorem sameInts_any (xs ys : List Int) (p q : Option Addr) (c d : Nat) (w : World) (hx : xs.length ≤ 1000000) (hy : ys.length ≤ 1000000)
    (h1 : 0 < xs.length → ∃ b o, p = some ⟨b, o, none⟩ ∧ IntsAt w w.heap.size b o xs) (h2 : 0 < ys.length → ∃ b o, q = some ⟨b, o, none⟩ ∧ IntsAt w w.heap.size b o ys) :
    Calls Try.prog 23 #[.slice p xs.length c, .slice q ys.length d] w fun e w' => e = .returned (.bool (decide (xs = ys))) ∧ ∃ n, w' = w.drewN n := by
  by_cases hl : xs.length = ys.length
  · have hd : ((xs.length : Int) != (ys.length : Int)) = false := by rw [bne_eq_false_iff_eq]; omega
    have H1 := Lib.hid h1; have H2 := Lib.hid h2; have HL := Lib.hid hl; clear h1 h2 hl
    go_enter Try.func23, Try.ntmps23
    go_wp2
    go_loopw [5] (fun i wr => ∃ k n : Nat, i = .int .i64 k ∧ k ≤ xs.length ∧ Pre xs ys k ∧ wr = w.drewN n) (fun i _ => xs.length - (intOf i).toNat)
    case atStart => exact ⟨0, 0, rfl, Nat.zero_le _, rfl, rfl⟩
    case round =>
      obtain ⟨k, n, rfl, hk, hp, rfl⟩ := hrel
      have HP := Lib.hid hp; clear hp
      by_cases hlt : k < xs.length
      · obtain ⟨b1, o1, rfl, ⟨_, hc1⟩⟩ := H1.out (by omega)
        have hlt2 : k < ys.length := by have := HL.out; omega
        obtain ⟨b2, o2, rfl, ⟨_, hc2⟩⟩ := H2.out (by omega)
        have e1 := hc1 k hlt
        have e2 := hc2 k hlt2
        clear hc1 hc2 H1 H2
        go_wp2
        go_quiet (fail)
        go_wp2
        · go_ret
          exact ⟨ret_b (ne_all hlt hlt2 (by assumption)), _, World.drewN_drewN _ _ _⟩
        · have hb : (xs[k] != ys[k]) = false := by assumption
          go_roundw
          case rel => exact ⟨k + 1, _, by go_num, hlt, pre_succ HP.out hlt hlt2 (by simpa using hb), rfl⟩
          case measure => simp [intOf]; omega
      · go_wp2
        go_ret
        have := HL.out
        exact ⟨ret_b (pre_all HP.out (by omega) (by omega)).symm, _, rfl⟩
  · have hd : ((xs.length : Int) != (ys.length : Int)) = true := by rw [bne_iff_ne]; omega
    go_enter Try.func23, Try.ntmps23
    go_wp2
    go_ret
    exact ⟨ret_b (by symm; apply decide_eq_false; rintro rfl; exact hl rfl), 0, rfl⟩
end Go.Proofs.Ytmfbfcknnjbabaa

namespace Go.Proofs.Ytmfbfcknnjbabaa
open Go.RowKit

structure Snd where
  well : Int
  low : Int
  high : Int
structure Slp where
  a : Int
  b : Int
  low : Int
  high : Int
structure Town where
  W : Int
  s : List Snd
  r : List Slp

def sOk (W : Int) (x : Snd) : Bool := within x.well 0 (W - 1) && (within x.high 0 99 && within x.low 0 x.high)
def rOk (W : Int) (x : Slp) : Bool := within x.a 0 (W - 1) && (within x.b 0 (W - 1) && (!(x.a == x.b) && (within x.high (-99) 99 && within x.low (-99) x.high)))
def Town.ok (T : Town) : Bool := within T.W 0 6 && (decide (T.s.length ≤ 8) && (decide (T.r.length ≤ 8) && (T.s.all (sOk T.W) && T.r.all (rOk T.W))))

/-- cells of the soundings at b, o -/
structure SndAt (w : World) (b o : Nat) (l : List Snd) : Prop where
  c0 : ∀ k, (h : k < l.length) → w.cell? ⟨b, o + k * 3, none⟩ = some (.int .i64 l[k].well)
  c1 : ∀ k, (h : k < l.length) → w.cell? ⟨b, o + k * 3 + 1, none⟩ = some (.int .i64 l[k].low)
  c2 : ∀ k, (h : k < l.length) → w.cell? ⟨b, o + k * 3 + 2, none⟩ = some (.int .i64 l[k].high)
structure SlpAt (w : World) (b o : Nat) (l : List Slp) : Prop where
  c0 : ∀ k, (h : k < l.length) → w.cell? ⟨b, o + k * 4, none⟩ = some (.int .i64 l[k].a)
  c1 : ∀ k, (h : k < l.length) → w.cell? ⟨b, o + k * 4 + 1, none⟩ = some (.int .i64 l[k].b)
  c2 : ∀ k, (h : k < l.length) → w.cell? ⟨b, o + k * 4 + 2, none⟩ = some (.int .i64 l[k].low)
  c3 : ∀ k, (h : k < l.length) → w.cell? ⟨b, o + k * 4 + 3, none⟩ = some (.int .i64 l[k].high)

/-- the town T lies in w below block B: its two slices' addresses are p and q -/
structure TownIn (w : World) (B : Nat) (T : Town) (p q : Option Addr) : Prop where
  s : 0 < T.s.length → ∃ b o, p = some ⟨b, o, none⟩ ∧ b < B ∧ SndAt w b o T.s
  r : 0 < T.r.length → ∃ b o, q = some ⟨b, o, none⟩ ∧ b < B ∧ SlpAt w b o T.r

theorem SndAt.below {w w' : World} {B b o : Nat} {l : List Snd} (h : SndAt w b o l) (hb : Below B w w') (hl : b < B) : SndAt w' b o l :=
  ⟨fun k hk => (hb.cell hl).trans (h.c0 k hk), fun k hk => (hb.cell hl).trans (h.c1 k hk), fun k hk => (hb.cell hl).trans (h.c2 k hk)⟩
theorem SlpAt.below {w w' : World} {B b o : Nat} {l : List Slp} (h : SlpAt w b o l) (hb : Below B w w') (hl : b < B) : SlpAt w' b o l :=
  ⟨fun k hk => (hb.cell hl).trans (h.c0 k hk), fun k hk => (hb.cell hl).trans (h.c1 k hk), fun k hk => (hb.cell hl).trans (h.c2 k hk), fun k hk => (hb.cell hl).trans (h.c3 k hk)⟩
theorem TownIn.below {w w' : World} {B : Nat} {T : Town} {p q : Option Addr} (h : TownIn w B T p q) (hb : Below B w w') : TownIn w' B T p q :=
  ⟨fun hs => let ⟨b, o, e, l, a⟩ := h.s hs; ⟨b, o, e, l, a.below hb l⟩, fun hs => let ⟨b, o, e, l, a⟩ := h.r hs; ⟨b, o, e, l, a.below hb l⟩⟩
theorem TownIn.mono {w : World} {B B' : Nat} {T : Town} {p q : Option Addr} (h : TownIn w B T p q) (hb : B ≤ B') : TownIn w B' T p q :=
  ⟨fun hs => let ⟨b, o, e, l, a⟩ := h.s hs; ⟨b, o, e, by omega, a⟩, fun hs => let ⟨b, o, e, l, a⟩ := h.r hs; ⟨b, o, e, by omega, a⟩⟩

theorem isWell_ex (W n : Int) (s r : Value) (w : World) (h0 : 0 ≤ W) (h1 : W ≤ 100) :
    Calls Try.prog 48 #[.agg #[.int .i64 W, s, r], .int .i64 n] w fun e w' => e = .returned (.bool (within n 0 (W-1))) ∧ w.alloc (.cells #[.int .i64 W, s, r] 25) = w' := by
  go_enter Try.func48, Try.ntmps48
  go_wp2_with (go_at_call 49; refine (within_any _ _ _ _).mono ?_; rintro e w' ⟨rfl, rfl⟩)
  go_ret
  exact ⟨rfl, rfl⟩

def SPre (W : Int) (l : List Snd) (k : Nat) : Prop := (l.take k).all (sOk W) = true
def RPre (W : Int) (l : List Slp) (k : Nat) : Prop := (l.take k).all (rOk W) = true
def vErr (b : Bool) : Int := if b then 0 else 10

theorem sPre_succ {W : Int} {l : List Snd} {k : Nat} (h : SPre W l k) (hk : k < l.length) (e : sOk W l[k] = true) : SPre W l (k + 1) := by
  unfold SPre at *
  rw [List.take_add_one, List.getElem?_eq_getElem hk, List.all_append, h]; simpa using e
theorem sPre_all {W : Int} {l : List Snd} {k : Nat} (h : SPre W l k) (hk : l.length ≤ k) : l.all (sOk W) = true := by
  unfold SPre at h; rwa [List.take_of_length_le hk] at h
theorem sBad {W : Int} {l : List Snd} {k : Nat} (hk : k < l.length) (e : sOk W l[k] = false) : l.all (sOk W) = false := by
  rw [List.all_eq_false]; exact ⟨l[k], List.getElem_mem hk, by simp [e]⟩
theorem rPre_succ {W : Int} {l : List Slp} {k : Nat} (h : RPre W l k) (hk : k < l.length) (e : rOk W l[k] = true) : RPre W l (k + 1) := by
  unfold RPre at *
  rw [List.take_add_one, List.getElem?_eq_getElem hk, List.all_append, h]; simpa using e
theorem rPre_all {W : Int} {l : List Slp} {k : Nat} (h : RPre W l k) (hk : l.length ≤ k) : l.all (rOk W) = true := by
  unfold RPre at h; rwa [List.take_of_length_le hk] at h
theorem rBad {W : Int} {l : List Slp} {k : Nat} (hk : k < l.length) (e : rOk W l[k] = false) : l.all (rOk W) = false := by
  rw [List.all_eq_false]; exact ⟨l[k], List.getElem_mem hk, by simp [e]⟩

theorem ret_i {a b : Int} (h : a = b) : Ending.returned (.int .i64 a) = .returned (.int .i64 b) := by rw [h]

theorem ok_s {T : Town} (h : T.s.all (sOk T.W) = false) : (10 : Int) = vErr T.ok := by simp [Town.ok, h, vErr]
theorem ok_r {T : Town} (h : T.r.all (rOk T.W) = false) : (10 : Int) = vErr T.ok := by simp [Town.ok, h, vErr]

theorem ok_t {T : Town} (h0 : within T.W 0 6 = true) (h1 : T.s.length ≤ 8) (h2 : T.r.length ≤ 8) (h3 : T.s.all (sOk T.W) = true) (h4 : T.r.all (rOk T.W) = true) : (0 : Int) = vErr T.ok := by simp [Town.ok, h0, h1, h2, h3, h4, vErr]

set_option maxHeartbeats 400000 in
theorem checkR_any (T : Town) (p q : Option Addr) (c d : Nat) (w : World) (hs : T.s.length ≤ 1000000) (hr : T.r.length ≤ 1000000) (ht : TownIn w w.heap.size T p q) :
    Calls Try.prog 21 #[.agg #[.int .i64 T.W, .slice p T.s.length c, .slice q T.r.length d]] w fun e w' => e = .returned (.int .i64 (vErr T.ok)) ∧ Below w.heap.size w w' := by
  have HT := Lib.hid ht; clear ht
  by_cases hw : 0 ≤ T.W ∧ T.W ≤ 6
  · have hw1 : within T.W 0 6 = true := within_tt hw.1 hw.2
    obtain ⟨hw2, hw3⟩ := hw
    by_cases h1 : T.s.length ≤ 8
    · by_cases h2 : T.r.length ≤ 8
      · have d1 : decide ((8 : Int) < (T.s.length : Int)) = false := decide_eq_false (by omega)
        have d2 : decide ((8 : Int) < (T.r.length : Int)) = false := decide_eq_false (by omega)
        go_enter Try.func21, Try.ntmps21
        go_wp2_with (go_at_call 49; refine (within_any _ _ _ _).mono ?_; rintro e w' ⟨rfl, rfl⟩)
        obtain ⟨w1, hw1'⟩ : ∃ w1, w1 = w.alloc (Obj.cells #[Value.int IntKind.i64 T.W, Value.slice p T.s.length c, Value.slice q T.r.length d] 25) := ⟨_, rfl⟩
        rw [← hw1']
        have HB : Below w.heap.size w w1 := by rw [hw1']; exact (Below.refl _ _).alloc (Nat.le_refl _) _
        have hsz : w1.heap.size = w.heap.size + 1 := by rw [hw1']; simp
        have k0 : w1.cell? ⟨w.heap.size, 0, none⟩ = some (.int .i64 T.W) := by rw [hw1']; go_simp
        have k1 : w1.cell? ⟨w.heap.size, 1, none⟩ = some (.slice p T.s.length c) := by rw [hw1']; go_simp
        have k2 : w1.cell? ⟨w.heap.size, 2, none⟩ = some (.slice q T.r.length d) := by rw [hw1']; go_simp
        clear hw1'
        have HT1 := Lib.hid ((HT.out.below HB).mono (B' := w1.heap.size) (by omega)); clear HT
        have HB1 := Lib.hid HB; clear HB
        have HS := Lib.hid hsz; clear hsz
        go_loopw [3] (fun i wr => ∃ k : Nat, i = .int .i64 k ∧ k ≤ T.s.length ∧ SPre T.W T.s k ∧ Below w1.heap.size w1 wr) (fun i _ => T.s.length - (intOf i).toNat)
        case atStart => exact ⟨0, rfl, Nat.zero_le _, rfl, Below.refl _ _⟩
        case round =>
          obtain ⟨k, rfl, hk, hp, hb⟩ := hrel
          have HP := Lib.hid hp; clear hp
          have HBB := Lib.hid hb; clear hb
          have hz := HS.out
          have g0 := (HBB.out.cell (p := ⟨w.heap.size, 0, none⟩) (by simp; omega)).trans k0
          have g1 := (HBB.out.cell (p := ⟨w.heap.size, 1, none⟩) (by simp; omega)).trans k1
          have g2 := (HBB.out.cell (p := ⟨w.heap.size, 2, none⟩) (by simp; omega)).trans k2
          have hz2 : w.heap.size < wr.heap.size := by have := HBB.out.size; omega
          clear hz
          by_cases hlt : k < T.s.length
          · obtain ⟨b, o, rfl, hbl, hsn⟩ := (HT1.out.below HBB.out).s (by omega)
            have e0 := hsn.c0 k hlt
            have e1 := hsn.c1 k hlt
            have e2 := hsn.c2 k hlt
            clear hsn
            go_wp2_with (first | (go_at_call 49; refine (within_any _ _ _ _).mono ?_; rintro e w' ⟨rfl, rfl⟩) | (go_at_call 48; refine (isWell_ex _ _ _ _ _ (by omega) (by omega)).mono ?_; rintro e w' ⟨rfl, rfl⟩))
            · go_ret
              have f : sOk T.W T.s[k] = false := by simp_all [sOk]
              exact ⟨ret_i (ok_s (sBad hlt f)), ((HB1.out.trans (HBB.out.mono (by have := HS.out; omega))).alloc (by omega) _).alloc (by simp; omega) _⟩
            · have f : sOk T.W T.s[k] = true := by simp_all [sOk]
              go_roundw
              case rel => exact ⟨k + 1, by go_num, hlt, sPre_succ HP.out hlt f, ((HBB.out).alloc (HBB.out.size) _).alloc (by have := HBB.out.size; simp; omega) _⟩
              case measure => simp [intOf]; omega
            · go_ret
              have f : sOk T.W T.s[k] = false := by simp_all [sOk]
              exact ⟨ret_i (ok_s (sBad hlt f)), ((HB1.out.trans (HBB.out.mono (by have := HS.out; omega))).alloc (by omega) _).alloc (by simp; omega) _⟩
            · go_ret
              have f : sOk T.W T.s[k] = false := by simp_all [sOk]
              exact ⟨ret_i (ok_s (sBad hlt f)), ((HB1.out.trans (HBB.out.mono (by have := HS.out; omega))).alloc (by omega) _).alloc (by simp; omega) _⟩
          · have hall := sPre_all HP.out (by omega)
            have HA := Lib.hid hall; clear hall HP
            have HB2 := Lib.hid (HB1.out.trans (HBB.out.mono (by have := HS.out; omega))); clear HB1
            go_wp2
            have HT2 := Lib.hid ((HT1.out.below HBB.out).mono (B' := wr.heap.size) HBB.out.size); clear HT1 HBB
            obtain ⟨w2, rfl⟩ : ∃ w2, w2 = wr := ⟨_, rfl⟩
            go_loopw [5] (fun i wr => ∃ k : Nat, i = .int .i64 k ∧ k ≤ T.r.length ∧ RPre T.W T.r k ∧ Below w2.heap.size w2 wr) (fun i _ => T.r.length - (intOf i).toNat)
            case atStart => exact ⟨0, rfl, Nat.zero_le _, rfl, Below.refl _ _⟩
            case round =>
              clear hk hlt
              obtain ⟨k, rfl, hk, hp, hb⟩ := hrel
              have HP := Lib.hid hp; clear hp
              have HBB := Lib.hid hb; clear hb
              have hz3 : w.heap.size < wr.heap.size := by have := HBB.out.size; omega
              have j0 := (HBB.out.cell (p := ⟨w.heap.size, 0, none⟩) hz2).trans g0
              have j1 := (HBB.out.cell (p := ⟨w.heap.size, 1, none⟩) hz2).trans g1
              have j2 := (HBB.out.cell (p := ⟨w.heap.size, 2, none⟩) hz2).trans g2
              clear g0 g1 g2 k0 k1 k2
              by_cases hlt : k < T.r.length
              · obtain ⟨b, o, rfl, hbl, hsn⟩ := (HT2.out.below HBB.out).r (by omega)
                have e0 := hsn.c0 k hlt
                have e1 := hsn.c1 k hlt
                have e2 := hsn.c2 k hlt
                have e3 := hsn.c3 k hlt
                clear hsn
                go_wp2_with (first | (go_at_call 49; refine (within_any _ _ _ _).mono ?_; rintro e w' ⟨rfl, rfl⟩) | (go_at_call 48; refine (isWell_ex _ _ _ _ _ (by omega) (by omega)).mono ?_; rintro e w' ⟨rfl, rfl⟩))
                all_goals first
                  | (go_ret; have f : rOk T.W T.r[k] = false := by simp_all [rOk]
                     exact ⟨ret_i (ok_r (rBad hlt f)), by repeat (first | exact bT HB2.out HBB.out | refine bA ?_ _)⟩)
                  | (have f : rOk T.W T.r[k] = true := by simp_all [rOk]
                     go_roundw
                     case rel => exact ⟨k + 1, by go_num, hlt, rPre_succ HP.out hlt f, by repeat (first | exact HBB.out | refine bA ?_ _)⟩
                     case measure => simp [intOf]; omega)
              · have hall := rPre_all HP.out (by omega)
                go_wp2
                go_ret
                exact ⟨ret_i (ok_t hw1 h1 h2 HA.out hall), HB2.out.trans (HBB.out.mono (by omega))⟩
      · have d1 : decide ((8 : Int) < (T.s.length : Int)) = false := decide_eq_false (by omega)
        have d2 : decide ((8 : Int) < (T.r.length : Int)) = true := decide_eq_true (by omega)
        go_enter Try.func21, Try.ntmps21
        go_wp2_with (go_at_call 49; refine (within_any _ _ _ _).mono ?_; rintro e w' ⟨rfl, rfl⟩)
        go_ret
        exact ⟨ret_i (by simp [Town.ok, h2, vErr]), (Below.refl _ _).alloc (Nat.le_refl _) _⟩
    · have d1 : decide ((8 : Int) < (T.s.length : Int)) = true := decide_eq_true (by omega)
      go_enter Try.func21, Try.ntmps21
      go_wp2_with (go_at_call 49; refine (within_any _ _ _ _).mono ?_; rintro e w' ⟨rfl, rfl⟩)
      go_ret
      exact ⟨ret_i (by simp [Town.ok, h1, vErr]), (Below.refl _ _).alloc (Nat.le_refl _) _⟩
  · have hw1 : within T.W 0 6 = false := by simp [within]; omega
    go_enter Try.func21, Try.ntmps21
    go_wp2_with (go_at_call 49; refine (within_any _ _ _ _).mono ?_; rintro e w' ⟨rfl, rfl⟩)
    go_ret
    exact ⟨ret_i (by simp [Town.ok, hw1, vErr]), (Below.refl _ _).alloc (Nat.le_refl _) _⟩
end Go.Proofs.Ytmfbfcknnjbabaa
