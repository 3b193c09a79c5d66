/- The contract of isTruth, for any valid town and list. -/
import Derived.Test.YtmfbfcknnjbabaaA4
set_option linter.unusedSimpArgs false
set_option linter.unusedVariables false
namespace Go.Proofs.Ytmfbfcknnjbabaa
open Go.RowKit

def AllTo {α : Type} (p : α → Bool) (l : List α) (k : Nat) : Prop := (l.take k).all p = true
theorem allTo_succ {α : Type} {p : α → Bool} {l : List α} {k : Nat} (h : AllTo p l k) (hk : k < l.length) (e : p l[k] = true) : AllTo p l (k + 1) := by
  unfold AllTo at *
  rw [List.take_add_one, List.getElem?_eq_getElem hk, List.all_append, h]; simpa using e
theorem allTo_all {α : Type} {p : α → Bool} {l : List α} {k : Nat} (h : AllTo p l k) (hk : l.length ≤ k) : l.all p = true := by
  unfold AllTo at h; rwa [List.take_of_length_le hk] at h
theorem allTo_bad {α : Type} {p : α → Bool} {l : List α} {k : Nat} (hk : k < l.length) (e : p l[k] = false) : l.all p = false := by
  rw [List.all_eq_false]; exact ⟨l[k], List.getElem_mem hk, by simp [e]⟩

def at0 (xs : List Int) (i : Int) : Int := xs[i.toNat]?.getD 0
def okX (x : Int) : Bool := within x 0 99
def okS (xs : List Int) (s : Snd) : Bool := within (at0 xs s.well) s.low s.high
def okR (xs : List Int) (s : Slp) : Bool := within (at0 xs s.b - at0 xs s.a) s.low s.high
def truth (T : Town) (xs : List Int) : Bool := decide ((xs.length : Int) = T.W) && (xs.all okX && (T.s.all (okS xs) && T.r.all (okR xs)))

theorem tr_len {T : Town} {xs : List Int} (h : ¬ (xs.length : Int) = T.W) : false = truth T xs := by simp [truth, h]
theorem tr_x {T : Town} {xs : List Int} (h : xs.all okX = false) : false = truth T xs := by simp [truth, h]
theorem tr_s {T : Town} {xs : List Int} (h : T.s.all (okS xs) = false) : false = truth T xs := by simp [truth, h]
theorem tr_r {T : Town} {xs : List Int} (h : T.r.all (okR xs) = false) : false = truth T xs := by simp [truth, h]
theorem tr_t {T : Town} {xs : List Int} (h : (xs.length : Int) = T.W) (h1 : xs.all okX = true) (h2 : T.s.all (okS xs) = true) (h3 : T.r.all (okR xs) = true) : true = truth T xs := by simp [truth, h, h1, h2, h3]

theorem ok_well {T : Town} (h : T.ok = true) {k : Nat} (hk : k < T.s.length) : 0 ≤ T.s[k].well ∧ T.s[k].well < T.W := by
  simp only [Town.ok, Bool.and_eq_true, List.all_eq_true] at h
  have := h.2.2.2.1 _ (List.getElem_mem hk)
  simp [sOk, within] at this; omega
theorem ok_ab {T : Town} (h : T.ok = true) {k : Nat} (hk : k < T.r.length) : (0 ≤ T.r[k].a ∧ T.r[k].a < T.W) ∧ (0 ≤ T.r[k].b ∧ T.r[k].b < T.W) := by
  simp only [Town.ok, Bool.and_eq_true, List.all_eq_true] at h
  have := h.2.2.2.2 _ (List.getElem_mem hk)
  simp [rOk, within] at this; omega
theorem ok_W {T : Town} (h : T.ok = true) : 0 ≤ T.W ∧ T.W ≤ 6 := by
  simp only [Town.ok, Bool.and_eq_true] at h
  have := h.1
  simp [within] at this; omega
theorem ok_len {T : Town} (h : T.ok = true) : T.s.length ≤ 8 ∧ T.r.length ≤ 8 := by
  simp only [Town.ok, Bool.and_eq_true] at h
  have h1 := h.2.1; have h2 := h.2.2.1
  simp at h1 h2; omega
theorem allX_at {xs : List Int} (h : xs.all okX = true) {i : Int} (h0 : 0 ≤ i) (h1 : i < xs.length) : 0 ≤ at0 xs i ∧ at0 xs i ≤ 99 := by
  rw [List.all_eq_true] at h
  have hl : i.toNat < xs.length := by omega
  have := h _ (List.getElem_mem hl)
  simp [okX, within] at this
  simp [at0, hl]; omega
theorem IntsAt.below {w w' : World} {B b o : Nat} {l : List Int} (h : IntsAt w B b o l) (hb : Below B w w') : IntsAt w' B b o l := ⟨h.lt, fun k hk => (hb.cell h.lt).trans (h.cell k hk)⟩
theorem IntsAt.mono {w : World} {B B' b o : Nat} {l : List Int} (h : IntsAt w B b o l) (hb : B ≤ B') : IntsAt w B' b o l := ⟨Nat.lt_of_lt_of_le h.lt hb, h.cell⟩
theorem IntsAt.at {w : World} {B b o : Nat} {l : List Int} (h : IntsAt w B b o l) {i : Int} (h0 : 0 ≤ i) (h1 : i < l.length) : w.cell? ⟨b, o + i.toNat, none⟩ = some (.int .i64 (at0 l i)) := h.cell _ (by omega)
theorem quiet_l {P : Program} {f : FuncId} {args : Array Value} {w : World} {n : Nat} {v : Value}
    (h : Calls P f args (w.drewN n) fun e w' => e = .returned v ∧ w.drewN n = w') : Calls P f args (w.drewN n) fun e w'' => e = .returned v ∧ ∃ m, w'' = w.drewN m :=
  h.mono fun _ _ ⟨he, hm⟩ => ⟨he, n, hm.symm⟩
theorem bool_of {a b : Bool} (h : a = b) : b = a := h.symm

set_option maxRecDepth 100000 in
set_option maxHeartbeats 800000 in
theorem isTruthP_any (T : Town) (p q : Option Addr) (c d : Nat) (xs : List Int) (x : Option Addr) (cx : Nat) (w : World) (hx : xs.length ≤ 1000000) (hok : T.ok = true) (ht : TownIn w w.heap.size T p q)
    (h1 : 0 < xs.length → ∃ b o, x = some ⟨b, o, none⟩ ∧ IntsAt w w.heap.size b o xs) :
    Calls Try.prog 57 #[.agg #[.int .i64 T.W, .slice p T.s.length c, .slice q T.r.length d], .slice x xs.length cx] w fun e w' => e = .returned (.bool (truth T xs)) ∧ Below w.heap.size w w' := by
  have HT := Lib.hid ht; clear ht
  have HX := Lib.hid h1; clear h1
  have HK := Lib.hid hok; clear hok
  obtain ⟨hW0, hW6⟩ := ok_W HK.out
  obtain ⟨hs8, hr8⟩ := ok_len HK.out
  by_cases hl : (xs.length : Int) = T.W
  · have db : ((xs.length : Int) != T.W) = false := by rw [bne_eq_false_iff_eq]; exact hl
    have hl1 : (xs.length : Int) ≤ T.W := by omega
    have hl2 : T.W ≤ (xs.length : Int) := by omega
    have HL := Lib.hid hl; clear hl
    go_enter Try.func57, Try.ntmps57
    go_wp2
    obtain ⟨w1, hw1'⟩ : ∃ w1, w1 = w.alloc (Obj.cells #[Value.int IntKind.i64 T.W, Value.slice p T.s.length c, Value.slice q T.r.length d] 25) := ⟨_, rfl⟩
    rw [← hw1']
    have HB : Below w.heap.size w w1 := by rw [hw1']; exact (Below.refl _ _).alloc (Nat.le_refl _) _
    have hsz : w1.heap.size = w.heap.size + 1 := by rw [hw1']; simp
    have k0 : w1.cell? ⟨w.heap.size, 0, none⟩ = some (.int .i64 T.W) := by rw [hw1']; go_simp
    have k1 : w1.cell? ⟨w.heap.size, 1, none⟩ = some (.slice p T.s.length c) := by rw [hw1']; go_simp
    have k2 : w1.cell? ⟨w.heap.size, 2, none⟩ = some (.slice q T.r.length d) := by rw [hw1']; go_simp
    clear hw1'
    have HT1 := Lib.hid ((HT.out.below HB).mono (B' := w1.heap.size) (by omega)); clear HT
    have HX1 : Hid (0 < xs.length → ∃ b o, x = some ⟨b, o, none⟩ ∧ IntsAt w1 w1.heap.size b o xs) := fun h => let ⟨b, o, e, a⟩ := HX.out h; ⟨b, o, e, (a.below HB).mono (by omega)⟩
    clear HX
    have HB1 := Lib.hid HB; clear HB
    have hsz2 : w.heap.size < w1.heap.size := by omega
    clear hsz
    go_loopw [20] (fun i wr => ∃ k : Nat, i = .int .i64 k ∧ k ≤ xs.length ∧ AllTo okX xs k ∧ Below w1.heap.size w1 wr) (fun i _ => xs.length - (intOf i).toNat)
    case atStart => exact ⟨0, rfl, Nat.zero_le _, rfl, Below.refl _ _⟩
    case round =>
      obtain ⟨k, rfl, hk, hp, hb⟩ := hrel
      have HP := Lib.hid hp; clear hp
      have HBB := Lib.hid hb; clear hb
      by_cases hlt : k < xs.length
      · obtain ⟨b, o, rfl, hi⟩ := HX1.out (by omega)
        have e0 := (hi.below HBB.out).cell k hlt
        clear hi k0 k1 k2
        go_wp2_with (go_at_call 49; refine (within_any _ _ _ _).mono ?_; rintro e w' ⟨rfl, rfl⟩)
        all_goals first
          | (go_ret; have f : okX xs[k] = false := by simp [okX, within]; omega
             exact ⟨ret_b (tr_x (allTo_bad hlt f)), bT HB1.out HBB.out⟩)
          | (have f : okX xs[k] = true := by simp [okX, within]; omega
             go_roundw
             case rel => exact ⟨k + 1, by go_num, hlt, allTo_succ HP.out hlt f, HBB.out⟩
             case measure => simp [intOf]; omega)
      · have hall := allTo_all HP.out (by omega)
        have HA := Lib.hid hall; clear hall HP
        have g0 := (HBB.out.cell (p := ⟨w.heap.size, 0, none⟩) hsz2).trans k0
        have g1 := (HBB.out.cell (p := ⟨w.heap.size, 1, none⟩) hsz2).trans k1
        have g2 := (HBB.out.cell (p := ⟨w.heap.size, 2, none⟩) hsz2).trans k2
        go_wp2
        clear hk hlt
        obtain ⟨wa, rfl⟩ : ∃ wa, wa = wr := ⟨_, rfl⟩
        clear g0 g1 g2
        go_loopw [34] (fun i wr => ∃ k : Nat, i = .int .i64 k ∧ k ≤ T.s.length ∧ AllTo (okS xs) T.s k ∧ Below w1.heap.size w1 wr) (fun i _ => T.s.length - (intOf i).toNat)
        case atStart => exact ⟨0, rfl, Nat.zero_le _, rfl, HBB.out⟩
        case round =>
          clear HBB
          obtain ⟨k, rfl, hk, hp, hb⟩ := hrel
          have HP := Lib.hid hp; clear hp
          have HBB := Lib.hid hb; clear hb
          have g0 := (HBB.out.cell (p := ⟨w.heap.size, 0, none⟩) hsz2).trans k0
          have g1 := (HBB.out.cell (p := ⟨w.heap.size, 1, none⟩) hsz2).trans k1
          have g2 := (HBB.out.cell (p := ⟨w.heap.size, 2, none⟩) hsz2).trans k2
          have hz2 : w.heap.size < wr.heap.size := Nat.lt_of_lt_of_le hsz2 HBB.out.size
          by_cases hlt : k < T.s.length
          · obtain ⟨b, o, rfl, hbl, hsn⟩ := (HT1.out.below HBB.out).s (by omega)
            have e0 := hsn.c0 k hlt
            have e1 := hsn.c1 k hlt
            have e2 := hsn.c2 k hlt
            obtain ⟨i0, i1⟩ := ok_well HK.out hlt
            have i2 : T.s[k].well < (xs.length : Int) := by omega
            have hb2 : b < wr.heap.size := Nat.lt_of_lt_of_le hbl HBB.out.size
            obtain ⟨bx, ox, rfl, hi⟩ := HX1.out (by omega)
            have hbx : bx < wr.heap.size := Nat.lt_of_lt_of_le hi.lt HBB.out.size
            have e4 := (hi.below HBB.out).at i0 i2
            clear hsn hi k0 k1 k2 g0 g2
            go_wp2
            skip
            all_goals first
              | (go_ret; have f : okS xs T.s[k] = false := by simp [okS, within]; omega
                 exact ⟨ret_b (tr_s (allTo_bad hlt f)), by repeat (first | exact bT HB1.out HBB.out | refine bA ?_ _ | refine bD ?_ _)⟩)
              | (have f : okS xs T.s[k] = true := by simp [okS, within]; omega
                 go_roundw
                 case rel => exact ⟨k + 1, by go_num, hlt, allTo_succ HP.out hlt f, by repeat (first | exact HBB.out | refine bA ?_ _ | refine bD ?_ _)⟩
                 case measure => simp [intOf]; omega)
          · have hall := allTo_all HP.out (by omega)
            have HA2 := Lib.hid hall; clear hall HP
            go_wp2
            clear hk hlt
            obtain ⟨wa, rfl⟩ : ∃ wa, wa = wr := ⟨_, rfl⟩
            clear g0 g1 g2 hz2
            go_loopw [57] (fun i wr => ∃ k : Nat, i = .int .i64 k ∧ k ≤ T.r.length ∧ AllTo (okR xs) T.r k ∧ Below w1.heap.size w1 wr) (fun i _ => T.r.length - (intOf i).toNat)
            case atStart => exact ⟨0, rfl, Nat.zero_le _, rfl, HBB.out⟩
            case round =>
              clear HBB
              obtain ⟨k, rfl, hk, hp, hb⟩ := hrel
              have HP := Lib.hid hp; clear hp
              have HBB := Lib.hid hb; clear hb
              have g0 := (HBB.out.cell (p := ⟨w.heap.size, 0, none⟩) hsz2).trans k0
              have g1 := (HBB.out.cell (p := ⟨w.heap.size, 1, none⟩) hsz2).trans k1
              have g2 := (HBB.out.cell (p := ⟨w.heap.size, 2, none⟩) hsz2).trans k2
              have hz2 : w.heap.size < wr.heap.size := Nat.lt_of_lt_of_le hsz2 HBB.out.size
              by_cases hlt : k < T.r.length
              · obtain ⟨b, o, rfl, hbl, hsn⟩ := (HT1.out.below HBB.out).r (by omega)
                have e0 := hsn.c0 k hlt
                have e1 := hsn.c1 k hlt
                have e2 := hsn.c2 k hlt
                have e3 := hsn.c3 k hlt
                obtain ⟨⟨i0, i1⟩, j0, j1⟩ := ok_ab HK.out hlt
                have i2 : T.r[k].a < (xs.length : Int) := by omega
                have j2 : T.r[k].b < (xs.length : Int) := by omega
                have hb2 : b < wr.heap.size := Nat.lt_of_lt_of_le hbl HBB.out.size
                obtain ⟨bx, ox, rfl, hi⟩ := HX1.out (by omega)
                have hbx : bx < wr.heap.size := Nat.lt_of_lt_of_le hi.lt HBB.out.size
                have e4 := (hi.below HBB.out).at i0 i2
                have e5 := (hi.below HBB.out).at j0 j2
                obtain ⟨m0, m1⟩ := allX_at HA.out i0 i2
                obtain ⟨m2, m3⟩ := allX_at HA.out j0 j2
                clear hsn hi k0 k1 k2 g0 g1
                go_wp2
                go_quiet (fail)
                go_wp2
                all_goals first
                  | (go_ret; have f : okR xs T.r[k] = false := by simp [okR, within]; omega
                     exact ⟨ret_b (tr_r (allTo_bad hlt f)), by repeat (first | exact bT HB1.out HBB.out | refine bA ?_ _ | refine bD ?_ _)⟩)
                  | (have f : okR xs T.r[k] = true := by simp [okR, within]; omega
                     go_roundw
                     case rel => exact ⟨k + 1, by go_num, hlt, allTo_succ HP.out hlt f, by repeat (first | exact HBB.out | refine bA ?_ _ | refine bD ?_ _)⟩
                     case measure => simp [intOf]; omega)
              · have hall := allTo_all HP.out (by omega)
                go_wp2
                go_ret
                exact ⟨ret_b (tr_t HL.out HA.out HA2.out hall), bT HB1.out HBB.out⟩
  · have db : ((xs.length : Int) != T.W) = true := by rw [bne_iff_ne]; exact hl
    go_enter Try.func57, Try.ntmps57
    go_wp2
    go_ret
    exact ⟨ret_b (tr_len hl), bA (Below.refl _ _) _⟩
end Go.Proofs.Ytmfbfcknnjbabaa
