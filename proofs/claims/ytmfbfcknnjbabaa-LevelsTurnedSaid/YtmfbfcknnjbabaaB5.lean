/- The contracts of width and wordsOf. -/
import Derived.Test.YtmfbfcknnjbabaaB4
import Derived.Deep.RegionHeld3
import Derived.Deep.AppendLies
set_option linter.unusedSimpArgs false
set_option linter.unusedVariables false
namespace Go.Proofs.Ytmfbfcknnjbabaa
open Go.RowKit

theorem ownd {w : World} {base : Nat} {e : TypeId} {size : Nat} {v : Value} {n : Nat} {xs : List Value} (h : w.ownsRow base e size v n xs) : w.drew.ownsRow base e size v n xs := h
def wd (M : List Int) : Nat → Int
  | 0 => 0
  | k + 1 => wrap64 (wd M k + wrap64 ((dif M 0 (k + 1)).2 - (dif M 0 (k + 1)).1))

set_option maxRecDepth 100000 in
set_option maxHeartbeats 1000000 in
theorem width_any (n : Nat) (M : List Int) (g : Nat) (w : World) (hn : n ≤ 6) (hr : RowAt w g n M) :
    Calls Try.prog 78 #[.pointer (some ⟨g, 0, none⟩)] w fun e w' => e = .returned (.int .i64 (wd M n)) ∧ Below w.heap.size w w' := by
  have hl := levels_any n M g w hn hr
  have HL := Lib.hid hl; clear hl hr
  go_enter Try.func78, Try.ntmps78
  go_wp2_with (go_at_call 61; refine HL.out.mono ?_; rintro e w1 ⟨v, rfl, ho, hb⟩; have HO := Lib.hid ho; have HB := Lib.hid hb; clear ho hb; obtain ⟨p, cap, rfl, hc⟩ := own_form HO.out; have HC := Lib.hid hc; clear hc)
  go_loopw [3, 9] (fun s i wr => ∃ k : Nat, i = .int .i64 k ∧ k ≤ n ∧ s = .int .i64 (wd M k) ∧ Below w1.heap.size w1 wr) (fun _ i _ => n - (intOf i).toNat)
  case atStart => exact ⟨0, rfl, Nat.zero_le _, rfl, Below.refl _ _⟩
  case round =>
    obtain ⟨k, rfl, hk, rfl, hb⟩ := hrel
    have HBB := Lib.hid hb; clear hb
    by_cases hlt : k < n
    · obtain ⟨gg, rfl, _, hlt2, hcell⟩ := HC.out (by omega)
      obtain ⟨f1, f2⟩ := flat2_at (lv M n) k (by rw [lv_len]; exact hlt)
      have e1 := ((HBB.out.cell (p := ⟨gg, k * 2, none⟩) hlt2).trans (hcell _ (by omega))).trans f1
      have e2 := ((HBB.out.cell (p := ⟨gg, k * 2 + 1, none⟩) hlt2).trans (hcell _ (by omega))).trans f2
      have hd : (lv M n)[k]'(by rw [lv_len]; exact hlt) = dif M 0 (k + 1) := by simp [lv]
      rw [hd] at e1 e2
      obtain ⟨⟨y1, y2⟩, hy⟩ : ∃ y, dif M 0 (k + 1) = y := ⟨_, rfl⟩
      obtain ⟨acc, ha⟩ : ∃ y, wd M k = y := ⟨_, rfl⟩
      rw [hy] at e1 e2
      have HW : Hid (wd M (k + 1) = wrap64 (acc + wrap64 (y2 - y1))) := by show wd M (k + 1) = _; simp only [wd]; rw [hy, ha]
      rw [ha]
      clear hcell f1 f2 hd hy ha HC
      go_wp2
      go_roundw
      case rel => exact ⟨k + 1, by go_num, hlt, by rw [HW.out], bA HBB.out _⟩
      case measure => simp [intOf]; omega
    · obtain rfl : k = n := by omega
      go_wp2
      go_ret
      exact ⟨rfl, bT HB.out HBB.out⟩

structure Wd where
  f : Nat
  t : Nat
  lo : Int
  hi : Int
def wS (s : Snd) : Wd := ⟨0, s.well.toNat + 1, s.low, s.high⟩
def wR (r : Slp) : Wd := ⟨r.a.toNat + 1, r.b.toNat + 1, r.low, r.high⟩
def words (T : Town) : List Wd := T.s.map wS ++ T.r.map wR
def flat4 (l : List Wd) : List Value := l.flatMap fun x => [.int .i64 x.f, .int .i64 x.t, .int .i64 x.lo, .int .i64 x.hi]
theorem flat4_snoc (l : List Wd) (x : Wd) : flat4 (l ++ [x]) = flat4 l ++ [.int .i64 x.f, .int .i64 x.t, .int .i64 x.lo, .int .i64 x.hi] := by simp [flat4]
theorem flat4_at (l : List Wd) (k : Nat) (h : k < l.length) : (flat4 l)[k * 4]? = some (.int .i64 l[k].f) ∧ (flat4 l)[k * 4 + 1]? = some (.int .i64 l[k].t) ∧ (flat4 l)[k * 4 + 2]? = some (.int .i64 l[k].lo) ∧ (flat4 l)[k * 4 + 3]? = some (.int .i64 l[k].hi) := by
  induction l generalizing k with
  | nil => simp at h
  | cons x l ih =>
    cases k with
    | zero => simp [flat4]
    | succ k =>
      have := ih k (by simpa using h)
      have e1 : (k + 1) * 4 = k * 4 + 1 + 1 + 1 + 1 := by omega
      simp only [flat4, List.flatMap_cons, List.cons_append, List.nil_append, e1, List.getElem?_cons_succ, List.getElem_cons_succ] at *
      exact this
theorem info111 : (Try.prog.info? 111).map (fun i => (i.zero, i.size, i.bytes)) = some (some (.agg #[.int .i64 0, .int .i64 0, .int .i64 0, .int .i64 0]), 4, 32) := by kernel_rfl

theorem take_map_succ {α β : Type} (l : List α) (f : α → β) (k : Nat) (h : k < l.length) : (l.take (k + 1)).map f = (l.take k).map f ++ [f l[k]] := by
  rw [List.take_add_one, List.getElem?_eq_getElem h, List.map_append]; rfl

set_option maxRecDepth 100000 in
set_option maxHeartbeats 2000000 in
theorem wordsOf_any (T : Town) (p q : Option Addr) (c d : Nat) (w : World) (hok : T.ok = true) (ht : TownIn w w.heap.size T p q) :
    Calls Try.prog 64 #[.agg #[.int .i64 T.W, .slice p T.s.length c, .slice q T.r.length d]] w fun e w' => ∃ v, e = .returned v ∧ w'.ownsRow w.heap.size 111 4 v (T.s.length + T.r.length) (flat4 (words T)) ∧ Below w.heap.size w w' := by
  obtain ⟨w1, hw1, hb1, hz1, k0, k1, k2⟩ := box_town w T.W p q T.s.length T.r.length c d
  obtain ⟨i0, hi, hz0, hz1', hz2⟩ := info_parts info111
  have I1 := Lib.hid hi; have I2 := Lib.hid hz0; have I3 := Lib.hid hz1'; have I4 := Lib.hid hz2; clear hi hz0 hz1' hz2
  have HT := Lib.hid ((ht.below hb1).mono (B' := w1.heap.size) (by omega))
  have HB1 := Lib.hid hb1
  have hl1 : w.heap.size < w1.heap.size := by omega
  have HK := Lib.hid hok
  obtain ⟨hs8, hr8⟩ := ok_len hok
  obtain ⟨hW0, hW6⟩ := ok_W hok
  clear ht hb1 hz1 hok
  go_enter Try.func64, Try.ntmps64
  go_wp2
  clear hw1
  go_loopw [3, 11] (fun v i wr => ∃ k : Nat, i = .int .i64 k ∧ k ≤ T.s.length ∧ wr.ownsRow w1.heap.size 111 4 v k (flat4 ((T.s.take k).map wS)) ∧ Below w1.heap.size w1 wr) (fun _ i _ => T.s.length - (intOf i).toNat)
  case atStart => exact ⟨0, rfl, Nat.zero_le _, World.ownsRow_nil _ _ _ _, Below.refl _ _⟩
  case round =>
    obtain ⟨k, rfl, hk, ho, hb⟩ := hrel
    have HO := Lib.hid ho; have HB := Lib.hid hb; clear ho hb
    obtain ⟨pv, cv, rfl, _⟩ := own_form HO.out
    by_cases hlt : k < T.s.length
    · obtain ⟨b, o, rfl, hbl, hsn⟩ := (HT.out.below HB.out).s (by omega)
      have e0 := hsn.c0 k hlt
      have e1 := hsn.c1 k hlt
      have e2 := hsn.c2 k hlt
      obtain ⟨x0, x1⟩ := ok_well HK.out hlt
      obtain ⟨s0, hs0⟩ : ∃ s : Nat, T.s[k].well = (s : Int) := ⟨T.s[k].well.toNat, by omega⟩
      obtain ⟨s1, hs1⟩ : ∃ s, T.s[k].low = s := ⟨_, rfl⟩
      obtain ⟨s2, hs2⟩ : ∃ s, T.s[k].high = s := ⟨_, rfl⟩
      rw [hs0] at e0 x0 x1; rw [hs1] at e1; rw [hs2] at e2
      have HE : Hid (flat4 ((T.s.take (k + 1)).map wS) = flat4 ((T.s.take k).map wS) ++ [.int .i64 0, .int .i64 ((s0 : Int) + 1), .int .i64 s1, .int .i64 s2]) := by
        show _ = _
        rw [take_map_succ _ _ _ hlt, flat4_snoc]; simp [wS, hs0, hs1, hs2]
      have HNE : Hid (some wr.heap.size ≠ (Value.slice pv k cv).ownBlock) := fun h => by have := (HO.out.lt _ h.symm).2; omega
      clear hsn hs0 hs1 hs2
      go_wp2
      go_region_held3 (fun w' => w'.cell? ⟨wr.heap.size, 0, none⟩ = some (.int .i64 s0) ∧ w'.cell? ⟨wr.heap.size, 1, none⟩ = some (.int .i64 s1) ∧ w'.cell? ⟨wr.heap.size, 2, none⟩ = some (.int .i64 s2))
        (first | go_keep | (go_split_ands; refine ⟨?_, ?_, ?_⟩ <;> (rw [HGR.out.cell_far _ (by simp; try omega) HNE.out]; assumption)))
        (first
          | (go_at_call 63; refine (point_ex _ _ (by omega) (by omega)).mono ?_; rintro e w2 ⟨rfl, rfl⟩)
          | (refine step_append_lies _ (by rfl) _ _ _ (by rfl) w1.heap.size 111 i0 _ 4 32 Try.underlying85 I1.out I2.out I3.out I4.out rfl (by decide) (.slice pv k cv) k (flat4 ((T.s.take k).map wS)) (by rfl) (by repeat (first | exact HO.out | refine World.ownsRow.alloc ?_ _)) ⟨wr.heap.size + 1, 0, none⟩ 1 1 [.int .i64 0, .int .i64 ((s0 : Int) + 1), .int .i64 s1, .int .i64 s2] (by rfl) (by rfl) (World.news_of_block (cs := #[.int .i64 0, .int .i64 ((s0 : Int) + 1), .int .i64 s1, .int .i64 s2]) (t := 111) (fr := (0, 0)) (heap_alloc2_new wr (.cells #[.int .i64 s0, .int .i64 s1, .int .i64 s2] 62) _)) (by simp [Value.oneCell']) (by omega) (by unfold maxLen; omega) (by omega) (by have := HB.out.size; simp; omega) _ rfl ?_; intro g' cap' w2 hown hgrow hat hlt'; have HOW := Lib.hid hown; have HGR := Lib.hid hgrow; clear hown hgrow hat))
      go_wp2
      go_roundw
      case rel =>
        refine ⟨k + 1, by go_num, hlt, ?_, below_grown (a := w1) (by repeat (first | exact HB.out | refine bd ?_ | refine bA ?_ _)) (ownd ((HO.out.alloc _).alloc _)) (Nat.le_refl _) HGR.out⟩
        rw [HE.out]
        exact HOW.out
      case measure => simp [intOf]; omega
    · obtain rfl : k = T.s.length := by omega
      have g1 := (HB.out.cell (p := ⟨w.heap.size, 2, none⟩) hl1).trans k2
      have ho := HO.out
      rw [List.take_length] at ho
      have HO2 := Lib.hid ho; clear ho HO
      go_wp2
      clear hk hlt g1
      obtain ⟨wa, rfl⟩ : ∃ wa, wa = wr := ⟨_, rfl⟩
      go_loopw [3, 30] (fun v i wr => ∃ k : Nat, i = .int .i64 k ∧ k ≤ T.r.length ∧ wr.ownsRow w1.heap.size 111 4 v (T.s.length + k) (flat4 (T.s.map wS ++ (T.r.take k).map wR)) ∧ Below w1.heap.size w1 wr) (fun _ i _ => T.r.length - (intOf i).toNat)
      case atStart => exact ⟨0, rfl, Nat.zero_le _, by simpa using HO2.out, HB.out⟩
      case round =>
        clear HO2 HB
        obtain ⟨k, rfl, hk, ho, hb⟩ := hrel
        have HO := Lib.hid ho; have HB := Lib.hid hb; clear ho hb
        obtain ⟨pv, cv, rfl, _⟩ := own_form HO.out
        by_cases hlt : k < T.r.length
        · obtain ⟨b, o, rfl, hbl, hsn⟩ := (HT.out.below HB.out).r (by omega)
          have e0 := hsn.c0 k hlt
          have e1 := hsn.c1 k hlt
          have e2 := hsn.c2 k hlt
          have e3 := hsn.c3 k hlt
          obtain ⟨⟨x0, x1⟩, x2, x3⟩ := ok_ab HK.out hlt
          obtain ⟨s0, hs0⟩ : ∃ s : Nat, T.r[k].a = (s : Int) := ⟨T.r[k].a.toNat, by omega⟩
          obtain ⟨s1, hs1⟩ : ∃ s : Nat, T.r[k].b = (s : Int) := ⟨T.r[k].b.toNat, by omega⟩
          obtain ⟨s2, hs2⟩ : ∃ s, T.r[k].low = s := ⟨_, rfl⟩
          obtain ⟨s3, hs3⟩ : ∃ s, T.r[k].high = s := ⟨_, rfl⟩
          rw [hs0] at e0 x0 x1; rw [hs1] at e1 x2 x3; rw [hs2] at e2; rw [hs3] at e3
          have HE : Hid (flat4 (T.s.map wS ++ (T.r.take (k + 1)).map wR) = flat4 (T.s.map wS ++ (T.r.take k).map wR) ++ [.int .i64 ((s0 : Int) + 1), .int .i64 ((s1 : Int) + 1), .int .i64 s2, .int .i64 s3]) := by
            show _ = _
            rw [take_map_succ _ _ _ hlt, ← List.append_assoc, flat4_snoc]; simp [wR, hs0, hs1, hs2, hs3]
          have HNE : Hid (some wr.heap.size ≠ (Value.slice pv (T.s.length + k) cv).ownBlock) := fun h => by have := (HO.out.lt _ h.symm).2; omega
          clear hsn hs0 hs1 hs2 hs3
          go_wp2
          go_region_held3 (fun w' => w'.cell? ⟨wr.heap.size, 0, none⟩ = some (.int .i64 s0) ∧ w'.cell? ⟨wr.heap.size, 1, none⟩ = some (.int .i64 s1) ∧ w'.cell? ⟨wr.heap.size, 2, none⟩ = some (.int .i64 s2) ∧ w'.cell? ⟨wr.heap.size, 3, none⟩ = some (.int .i64 s3))
            (first | go_keep | (go_split_ands; refine ⟨?_, ?_, ?_, ?_⟩ <;> (rw [HGR.out.cell_far _ (by simp; try omega) HNE.out]; assumption)))
            (first
              | (go_at_call 63; refine (point_ex _ _ (by omega) (by omega)).mono ?_; rintro e w2 ⟨rfl, rfl⟩)
              | (refine step_append_lies _ (by rfl) _ _ _ (by rfl) w1.heap.size 111 i0 _ 4 32 Try.underlying85 I1.out I2.out I3.out I4.out rfl (by decide) (.slice pv (T.s.length + k) cv) (T.s.length + k) (flat4 (T.s.map wS ++ (T.r.take k).map wR)) (by rfl) (by repeat (first | exact HO.out | refine World.ownsRow.alloc ?_ _)) ⟨wr.heap.size + 1, 0, none⟩ 1 1 [.int .i64 ((s0 : Int) + 1), .int .i64 ((s1 : Int) + 1), .int .i64 s2, .int .i64 s3] (by rfl) (by rfl) (World.news_of_block (cs := #[.int .i64 ((s0 : Int) + 1), .int .i64 ((s1 : Int) + 1), .int .i64 s2, .int .i64 s3]) (t := 111) (fr := (0, 0)) (heap_alloc2_new wr (.cells #[.int .i64 s0, .int .i64 s1, .int .i64 s2, .int .i64 s3] 58) _)) (by simp [Value.oneCell']) (by omega) (by unfold maxLen; omega) (by omega) (by have := HB.out.size; simp; omega) _ rfl ?_; intro g' cap' w2 hown hgrow hat hlt'; have HOW := Lib.hid hown; have HGR := Lib.hid hgrow; clear hown hgrow hat))
          go_wp2
          go_roundw
          case rel =>
            refine ⟨k + 1, by go_num, hlt, ?_, below_grown (a := w1) (by repeat (first | exact HB.out | refine bd ?_ | refine bA ?_ _)) (ownd ((HO.out.alloc _).alloc _)) (Nat.le_refl _) HGR.out⟩
            rw [HE.out]
            exact HOW.out
          case measure => simp [intOf]; omega
        · obtain rfl : k = T.r.length := by omega
          have ho := HO.out
          rw [List.take_length] at ho
          have HO2 := Lib.hid ho; clear ho HO
          go_wp2
          go_ret
          exact ⟨_, rfl, own_base HO2.out (by omega), bT HB1.out HB.out⟩
end Go.Proofs.Ytmfbfcknnjbabaa
