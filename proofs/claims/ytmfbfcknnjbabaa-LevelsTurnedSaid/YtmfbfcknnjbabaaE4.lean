/- The contract of leads. The contracts of the function that Clash makes, and of slices.Clone. -/
import Derived.Test.YtmfbfcknnjbabaaE2
import Derived.Deep.RegionHeld3
import Derived.Test.YtmfbfcknnjbabaaD3
import Derived.Test.YtmfbfcknnjbabaaA8
import Derived.WalkSpells
set_option linter.unusedSimpArgs false
set_option linter.unusedVariables false
namespace Go.Proofs.Ytmfbfcknnjbabaa
open Go.RowKit

def atN (l : List Int) (k : Nat) : Int := l[k]?.getD 0
def chTo (T : Town) (l : List Int) : Nat → Option Int
  | 0 => some (ownOf T (atN l 0))
  | k + 1 => match chTo T l k with
    | none => none
    | some s => if (stOf T (atN l k) (atN l (k + 1))).2 then some (wrap64 (s + (stOf T (atN l k) (atN l (k + 1))).1)) else none
theorem chTo_none {T : Town} {l : List Int} {k : Nat} (h : chTo T l k = none) : ∀ j, chTo T l (k + j) = none
  | 0 => h
  | j + 1 => by rw [← Nat.add_assoc]; simp only [chTo]; rw [chTo_none h j]
def leadsB (T : Town) (l : List Int) (u h : Int) : Bool :=
  decide (0 < l.length) && (decide (atN l (l.length - 1) = u) && (match chTo T l (l.length - 1) with | none => false | some s => s == h))

set_option maxRecDepth 100000 in
set_option maxHeartbeats 2000000 in
theorem leads_any (T : Town) (l : List Int) (u h : Int) (p q x : Option Addr) (c d : Nat) (w : World) (hs : T.s.length ≤ 1000000) (hr : T.r.length ≤ 1000000) (hl : l.length ≤ 1000) (ht : TownIn w w.heap.size T p q)
    (hx : 0 < l.length → ∃ b o, x = some ⟨b, o, none⟩ ∧ IntsAt w w.heap.size b o l) :
    Calls Try.prog 82 #[.agg #[.int .i64 T.W, .slice p T.s.length c, .slice q T.r.length d], .slice x l.length l.length, .int .i64 u, .int .i64 h] w fun e w' => e = .returned (.bool (leadsB T l u h)) ∧ Below w.heap.size w w' := by
  obtain ⟨w1, hw1, hb1, hz1, k0, k1, k2⟩ := box_town w T.W p q T.s.length T.r.length c d
  have hl1 : w.heap.size < w1.heap.size := by omega
  by_cases h0 : l.length = 0
  · have hb : ((l.length : Int) == 0) = true := by simp [h0]
    have HE : Hid (leadsB T l u h = false) := by show _ = _; simp [leadsB, h0]
    have HB1 := Lib.hid hb1
    clear h0 ht hx hb1
    go_enter Try.func82, Try.ntmps82
    go_wp2
    go_ret
    exact ⟨ret_b HE.out.symm, HB1.out⟩
  · obtain ⟨b, o, rfl, hi⟩ := hx (by omega)
    have hb : ((l.length : Int) == 0) = false := by rw [beq_eq_false_iff_ne]; omega
    obtain ⟨m, hm⟩ : ∃ m, l.length = m + 1 := ⟨l.length - 1, by omega⟩
    have hi1 := (hi.below hb1).mono hb1.size
    have HI := Lib.hid hi1
    have HT := Lib.hid ((ht.below hb1).mono (B' := w1.heap.size) (by omega))
    have HB1 := Lib.hid hb1
    have elast := hi1.cell m (by omega)
    obtain ⟨y, hy⟩ : ∃ y, atN l m = y := ⟨_, rfl⟩
    have elast' : w1.cell? ⟨b, o + m, none⟩ = some (.int .i64 y) := by rw [← hy]; exact elast
    have HM := Lib.hid hm
    rw [hm] at hb hl ⊢
    have hb' : ((m : Int) + 1 == 0) = false := by rw [beq_eq_false_iff_ne]; omega
    clear hb
    by_cases hu : y = u
    · have hbu : (y != u) = false := by simp [hu]
      have hf := hi1.cell 0 (by omega)
      have e00 : w1.cell? ⟨b, o, none⟩ = some (.int .i64 (atN l 0)) := hf
      obtain ⟨f0, hf0⟩ : ∃ y, atN l 0 = y := ⟨_, rfl⟩
      rw [hf0] at e00
      have hown : ∀ W, Below w1.heap.size w1 W → Calls Try.prog 97 #[.agg #[.int .i64 T.W, .slice p T.s.length c, .slice q T.r.length d], .int .i64 f0] W fun e w' => e = .returned (.int .i64 (ownOf T f0)) ∧ Below W.heap.size W w' := fun W hW => own_any T f0 p q c d W hs ((HT.out.below hW).mono hW.size)
      have HO := Lib.hid hown
      have hLB : leadsB T l u h = (match chTo T l m with | none => false | some s => s == h) := by
        unfold leadsB; rw [HM.out]; simp [hy, hu]
      have HLB := Lib.hid hLB
      have hch0 : chTo T l 0 = some (ownOf T f0) := by simp only [chTo, hf0]
      have HC0 := Lib.hid hch0
      have hbl := hi1.lt
      have HY := Lib.hid hy; have HF0 := Lib.hid hf0
      clear h0 ht hx hb1 hi hi1 elast hf hown hLB hch0 hm hy hu
      by_cases hm0 : m = 0
      · subst hm0
        obtain rfl : f0 = y := HF0.out.symm.trans HY.out
        clear elast' HY HF0
        have HF : Hid (leadsB T l u h = (ownOf T f0 == h)) := by show _ = _; rw [HLB.out, HC0.out]
        go_enter Try.func82, Try.ntmps82
        go_wp2
        go_region_held3 (fun w' => w'.cell? ⟨w.heap.size, 0, none⟩ = some (.int .i64 T.W) ∧ w'.cell? ⟨w.heap.size, 1, none⟩ = some (.slice p T.s.length c) ∧ w'.cell? ⟨w.heap.size, 2, none⟩ = some (.slice q T.r.length d) ∧ w'.cell? ⟨b, o, none⟩ = some (.int .i64 f0))
          (first | go_keep | exact ⟨d0, d1, d2, d3⟩)
          (first | (go_at_call 97; refine (HO.out _ (bd (Below.refl _ _))).mono ?_; rintro e w2 ⟨rfl, hb2⟩; have d0 := (hb2.cell (p := ⟨w.heap.size, 0, none⟩) hl1).trans k0; have d1 := (hb2.cell (p := ⟨w.heap.size, 1, none⟩) hl1).trans k1; have d2 := (hb2.cell (p := ⟨w.heap.size, 2, none⟩) hl1).trans k2; have d3 := (hb2.cell (p := ⟨b, o, none⟩) hbl).trans e00; have HB2 := Lib.hid (bT (bd (Below.refl _ _) : Below w1.heap.size w1 _) hb2); clear hb2))
        go_wp2
        go_loopw [9, 35] (fun a i wr => a = .int .i64 (ownOf T f0) ∧ i = .int .i64 0 ∧ Below w1.heap.size w1 wr) (fun _ _ _ => 0)
        case atStart => exact ⟨rfl, rfl, HB2.out⟩
        case round =>
          obtain ⟨rfl, rfl, hbr⟩ := hrel
          have HBR := Lib.hid hbr; clear hbr
          go_wp2
          go_ret
          exact ⟨ret_b HF.out.symm, bT HB1.out HBR.out⟩
      · have hmp : 0 < m := by omega
        clear hm0
        go_enter Try.func82, Try.ntmps82
        go_wp2
        go_region_held3 (fun w' => w'.cell? ⟨w.heap.size, 0, none⟩ = some (.int .i64 T.W) ∧ w'.cell? ⟨w.heap.size, 1, none⟩ = some (.slice p T.s.length c) ∧ w'.cell? ⟨w.heap.size, 2, none⟩ = some (.slice q T.r.length d) ∧ w'.cell? ⟨b, o, none⟩ = some (.int .i64 f0))
          (first | go_keep | exact ⟨d0, d1, d2, d3⟩)
          (first | (go_at_call 97; refine (HO.out _ (bd (Below.refl _ _))).mono ?_; rintro e w2 ⟨rfl, hb2⟩; have d0 := (hb2.cell (p := ⟨w.heap.size, 0, none⟩) hl1).trans k0; have d1 := (hb2.cell (p := ⟨w.heap.size, 1, none⟩) hl1).trans k1; have d2 := (hb2.cell (p := ⟨w.heap.size, 2, none⟩) hl1).trans k2; have d3 := (hb2.cell (p := ⟨b, o, none⟩) hbl).trans e00; have HB2 := Lib.hid (bT (bd (Below.refl _ _) : Below w1.heap.size w1 _) hb2); clear hb2))
        go_wp2
        clear d0 d1 d2 d3 elast'
        go_loopw [9, 35] (fun a i wr => ∃ (k : Nat) (s : Int), i = .int .i64 k ∧ k ≤ m ∧ a = .int .i64 s ∧ chTo T l k = some s ∧ Below w1.heap.size w1 wr) (fun _ i _ => m - (intOf i).toNat)
        case atStart => exact ⟨0, _, rfl, Nat.zero_le _, rfl, HC0.out, HB2.out⟩
        case round =>
          obtain ⟨k, s, rfl, hk, rfl, hch, hbr⟩ := hrel
          have HCH := Lib.hid hch; have HBR := Lib.hid hbr; clear hch hbr
          have q0 := (HBR.out.cell (p := ⟨w.heap.size, 0, none⟩) hl1).trans k0
          have q1 := (HBR.out.cell (p := ⟨w.heap.size, 1, none⟩) hl1).trans k1
          have q2 := (HBR.out.cell (p := ⟨w.heap.size, 2, none⟩) hl1).trans k2
          by_cases hlt : k < m
          · have g0 := (HI.out.below HBR.out).cell k (by have := HM.out; omega)
            have g1 := (HI.out.below HBR.out).cell (k + 1) (by have := HM.out; omega)
            obtain ⟨y0, hy0⟩ : ∃ y, atN l k = y := ⟨_, rfl⟩
            obtain ⟨y1, hy1⟩ : ∃ y, atN l (k + 1) = y := ⟨_, rfl⟩
            have c0 : wr.cell? ⟨b, o + k, none⟩ = some (.int .i64 y0) := by rw [← hy0]; exact g0
            have c1 : wr.cell? ⟨b, o + 1 + k, none⟩ = some (.int .i64 y1) := by rw [← hy1, show o + 1 + k = o + (k + 1) by omega]; exact g1
            have hstep : Calls Try.prog 98 #[.agg #[.int .i64 T.W, .slice p T.s.length c, .slice q T.r.length d], .int .i64 y0, .int .i64 y1] wr.drew fun e w' => e = .returned (.tuple #[.int .i64 (stOf T y0 y1).1, .bool (stOf T y0 y1).2]) ∧ Below wr.drew.heap.size wr.drew w' :=
              step_any T y0 y1 p q c d wr.drew hr ((HT.out.below (bd HBR.out)).mono (bd HBR.out).size)
            have hnext : chTo T l (k + 1) = if (stOf T y0 y1).2 then some (wrap64 (s + (stOf T y0 y1).1)) else none := by simp only [chTo, HCH.out, hy0, hy1]
            have k0r : (0 : Int) ≤ (k : Int) := by omega
            have k1r : (k : Int) < (m : Int) + 1 := by omega
            have hblr : b < wr.heap.size := Nat.lt_of_lt_of_le hbl HBR.out.size
            have hl1r : w.heap.size < wr.heap.size := Nat.lt_of_lt_of_le hl1 HBR.out.size
            cases hst : stOf T y0 y1 with
            | mk x is =>
              rw [hst] at hstep hnext
              dsimp only at hstep
              have HST := Lib.hid hstep; have HNX := Lib.hid hnext
              clear g0 g1 hy0 hy1 hstep hnext hst
              cases is with
              | false =>
                have hn2 : chTo T l m = none := by have h1 : chTo T l (k + 1) = none := by rw [HNX.out]; rfl
                                                   have := chTo_none h1 (m - (k + 1)); rwa [show k + 1 + (m - (k + 1)) = m by omega] at this
                have HF : Hid (leadsB T l u h = false) := by show _ = _; rw [HLB.out, hn2]
                clear hn2
                go_wp2
                go_region_held3 (fun w' => w'.cell? ⟨w.heap.size, 0, none⟩ = some (.int .i64 T.W) ∧ w'.cell? ⟨w.heap.size, 1, none⟩ = some (.slice p T.s.length c) ∧ w'.cell? ⟨w.heap.size, 2, none⟩ = some (.slice q T.r.length d) ∧ w'.cell? ⟨b, o + k, none⟩ = some (.int .i64 y0))
                  (first | go_keep | exact ⟨d0, d1, d2, d3⟩)
                  (first | (go_at_call 98; refine HST.out.mono ?_; rintro e w3 ⟨rfl, hb3⟩; have d0 := (hb3.cell (p := ⟨w.heap.size, 0, none⟩) hl1r).trans q0; have d1 := (hb3.cell (p := ⟨w.heap.size, 1, none⟩) hl1r).trans q1; have d2 := (hb3.cell (p := ⟨w.heap.size, 2, none⟩) hl1r).trans q2; have d3 := (hb3.cell (p := ⟨b, o + k, none⟩) hblr).trans c0; have HB3 := Lib.hid (bT (bd (Below.refl _ _) : Below wr.heap.size wr _) hb3); clear hb3))
                go_wp2
                go_ret
                exact ⟨ret_b HF.out.symm, bT HB1.out (bT HBR.out HB3.out)⟩
              | true =>
                go_wp2
                go_region_held3 (fun w' => w'.cell? ⟨w.heap.size, 0, none⟩ = some (.int .i64 T.W) ∧ w'.cell? ⟨w.heap.size, 1, none⟩ = some (.slice p T.s.length c) ∧ w'.cell? ⟨w.heap.size, 2, none⟩ = some (.slice q T.r.length d) ∧ w'.cell? ⟨b, o + k, none⟩ = some (.int .i64 y0))
                  (first | go_keep | exact ⟨d0, d1, d2, d3⟩)
                  (first | (go_at_call 98; refine HST.out.mono ?_; rintro e w3 ⟨rfl, hb3⟩; have d0 := (hb3.cell (p := ⟨w.heap.size, 0, none⟩) hl1r).trans q0; have d1 := (hb3.cell (p := ⟨w.heap.size, 1, none⟩) hl1r).trans q1; have d2 := (hb3.cell (p := ⟨w.heap.size, 2, none⟩) hl1r).trans q2; have d3 := (hb3.cell (p := ⟨b, o + k, none⟩) hblr).trans c0; have HB3 := Lib.hid (bT (bd (Below.refl _ _) : Below wr.heap.size wr _) hb3); clear hb3))
                clear d0 d1 d2 d3
                go_wp2
                go_roundw
                case rel => exact ⟨k + 1, _, by go_num, hlt, rfl, by rw [HNX.out]; rfl, bT HBR.out HB3.out⟩
                case measure => simp [intOf]; omega
          · obtain rfl : k = m := by omega
            have HF : Hid (leadsB T l u h = (s == h)) := by show _ = _; rw [HLB.out, HCH.out]
            go_wp2
            go_ret
            exact ⟨ret_b HF.out.symm, bT HB1.out HBR.out⟩
    · have hbu : (y != u) = true := by simp [hu]
      have HE : Hid (leadsB T l u h = false) := by show _ = _; unfold leadsB; rw [HM.out]; simp [hy, hu]
      clear h0 ht hx hb1 hi hi1 elast hm hy hu
      go_enter Try.func82, Try.ntmps82
      go_wp2
      go_ret
      exact ⟨ret_b HE.out.symm, HB1.out⟩
end Go.Proofs.Ytmfbfcknnjbabaa

namespace Go.Proofs.Ytmfbfcknnjbabaa
open Go.RowKit

theorem clash1_ex (a : Addr) (l : List Int) (p : Option Addr) (c : Nat) (k : Int) (w : World) (hl : l.length ≤ 1000000) (ha : w.cell? a = some (.slice p l.length c)) (h : Ints w p l) :
    Calls Try.prog 67 #[.int .i64 k, .pointer (some a)] w fun e w' => e = .returned (.bool (hasB l k)) ∧ Below w.heap.size w w' := by
  have hc := contains_any l p c k w hl h
  have HC := Lib.hid hc; clear hc h
  go_enter Try.func67, Try.ntmps67
  go_wp2_with (go_at_call 68; refine HC.out.mono ?_; rintro e w1 ⟨rfl, hb⟩; have HB := Lib.hid hb; clear hb)
  go_ret
  exact ⟨rfl, HB.out⟩

theorem info3e : (Try.prog.info? 3).map (fun i => (i.zero, i.size, i.bytes)) = some (some (.int .i64 0), 1, 8) := by kernel_rfl
set_option maxRecDepth 100000 in
set_option maxHeartbeats 2000000 in
/-- slices.Clone, of a slice that is not nil -/
theorem clone_any (l : List Int) (b : Nat) (c : Nat) (w : World) (hl : l.length ≤ 1000) (h : IntsAt w w.heap.size b 0 l) :
    Calls Try.prog 70 #[.slice (some ⟨b, 0, none⟩) l.length c] w fun e w' => ∃ v, e = .returned v ∧ w'.ownsRow w.heap.size 3 1 v l.length (l.map (Value.int .i64)) ∧ Below w.heap.size w w' := by
  obtain ⟨i0, hi, hz0, hz1, hz2⟩ := info_parts info3e
  have I1 := Lib.hid hi; have I2 := Lib.hid hz0; have I3 := Lib.hid hz1; have I4 := Lib.hid hz2; clear hi hz0 hz1 hz2
  have H := Lib.hid h; clear h
  have q26 : ∀ (w : World) (a : Option Addr) (n c n' c' : Nat), (binOp .eql 26 (.slice a n c) (.slice none n' c')).run Try.prog w = .ok (.bool a.isNone) w := fun w a n c n' c' => Lib.run_eql_slice_nil w _ _ a n c n' c' Try.underlying26
  go_enter Try.func70, Try.ntmps70
  go_wp2_with (at_builtin; refine wpList_append_own _ rfl _ _ 26 rfl w.heap.size 3 i0 _ 1 8 Try.underlying26 I1.out I2.out I3.out I4.out rfl (by decide) _ 0 [] rfl (World.ownsRow_lit (base := w.heap.size) (e := 3) (size := 1) w #[] 0 (Nat.le_refl _) (Nat.zero_le _) rfl) ⟨b, 0, none⟩ l.length c (l.map (Value.int .i64)) rfl (by simp) ?c1 ?c2 ?c3 ?c4 ?c5 ?_)
  case c1 =>
    intro j u hu
    have hlt := H.out.lt
    have hj : j < l.length := by
      have := (List.getElem?_eq_some_iff.1 hu).1; simpa using this
    have e : l[j]?.getD 0 = l[j] := by rw [List.getElem?_eq_getElem hj]; rfl
    have hc := H.out.cell j hj
    rw [e] at hc
    rw [List.getElem?_map, List.getElem?_eq_getElem hj] at hu
    obtain rfl : Value.int .i64 l[j] = u := Option.some.inj hu
    have := Lib.cell?_alloc_some (W := w) (a := ⟨b, 0 + j, none⟩) (Obj.cells #[] 3) hc
    have ea : (⟨b, 0, none⟩ : Addr).add j = ⟨b, 0 + j, none⟩ := by cases j <;> simp [Addr.add]
    rw [ea]
    exact this
  case c2 => intro u hu; obtain ⟨x, _, rfl⟩ := List.mem_map.1 hu; rfl
  case c3 => simp [maxLen]; omega
  case c4 => omega
  case c5 => simp
  intro v' w' how hgr hne
  have HO := Lib.hid how; have HG := Lib.hid hgr; clear how hgr
  go_wp2
  go_ret
  exact ⟨_, rfl, HO.out, below_grown (bA (Below.refl _ _) _) (World.ownsRow_lit (base := w.heap.size) (e := 3) (size := 1) w #[] 0 (Nat.le_refl _) (Nat.zero_le _) rfl) (Nat.le_refl _) HG.out⟩
end Go.Proofs.Ytmfbfcknnjbabaa
