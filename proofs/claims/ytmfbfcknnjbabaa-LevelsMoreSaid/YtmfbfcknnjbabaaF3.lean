/- The contract of Ask, of a town with a truth. -/
import Derived.Test.YtmfbfcknnjbabaaF2
import Derived.Test.YtmfbfcknnjbabaaC2
set_option linter.unusedSimpArgs false
set_option linter.unusedVariables false
namespace Go.Proofs.Ytmfbfcknnjbabaa
open Go.RowKit Go.Shelf

def ww (M : List Int) (n q : Nat) : Int := wst M n q (nums (dif M 0 (q + 1)).1 ((dif M 0 (q + 1)).2 - (dif M 0 (q + 1)).1 + 1).toNat)
def askSt (M : List Int) (n : Nat) : Nat → Int × Int
  | 0 => (0, ww M n 0)
  | k + 1 => if ww M n k < (askSt M n k).2 then ((k : Int), ww M n k) else askSt M n k
/-- the spans of the levels are no more than this, and not empty -/
def Fine (M : List Int) (n : Nat) : Prop := ∀ q, q < n → -10000000 ≤ (dif M 0 (q + 1)).1 ∧ (dif M 0 (q + 1)).1 ≤ 10000000 ∧ (dif M 0 (q + 1)).1 ≤ (dif M 0 (q + 1)).2 ∧ (dif M 0 (q + 1)).2 - (dif M 0 (q + 1)).1 + 1 ≤ 10000000

theorem worst_ok (n q : Nat) (M : List Int) (g : Nat) (w : World) (hn : n ≤ 6) (hq : q < n) (hr : RowAt w g n M) (hf : Fine M n) :
    Calls Try.prog 79 #[.pointer (some ⟨g, 0, none⟩), .int .i64 q] w fun e w' => e = .returned (.int .i64 (ww M n q)) ∧ Below w.heap.size w w' := by
  obtain ⟨a1, a2, a3, a4⟩ := hf q hq
  unfold ww
  obtain ⟨⟨lo, hi⟩, hd⟩ : ∃ x, dif M 0 (q + 1) = x := ⟨_, rfl⟩
  rw [hd] at a1 a2 a3 a4 ⊢
  dsimp only at a1 a2 a3 a4 ⊢
  exact callsIn_wide.1 (worst_any n q M g w hn (by omega) hr lo hi _ hd a1 a2 (by omega) (by omega))

set_option maxRecDepth 100000 in
set_option maxHeartbeats 2000000 in
theorem ask_ok (T : Town) (M : List Int) (n : Nat) (p q : Option Addr) (c d : Nat) (w : World) (hok : T.ok = true) (hk : kn T = some M) (hn : T.W = n) (hf : Fine M n) (ht : TownIn w w.heap.size T p q) :
    Calls Try.prog 41 #[.agg #[.int .i64 T.W, .slice p T.s.length c, .slice q T.r.length d]] w fun e w' =>
      e = .returned (if wd M n = 0 then .tuple #[.int .i64 0, .int .i64 3] else .tuple #[.int .i64 (askSt M n n).1, .int .i64 0]) ∧ Below w.heap.size w w' := by
  rw [hn]
  obtain ⟨w1, hw1, hb1, hz1, k0, k1, k2⟩ := box_town w (n : Int) p q T.s.length T.r.length c d
  have hl1 : w.heap.size < w1.heap.size := by omega
  have hM : M.length = 49 := hTo_len hk
  have hW := ok_W hok
  have hn6 : n ≤ 6 := by omega
  have hlearn := learn_nil T M p q c d w1 hok hk ((ht.below hb1).mono hb1.size)
  rw [hn] at hlearn
  obtain ⟨y, hy⟩ : ∃ y, wd M n = y := ⟨_, rfl⟩
  obtain ⟨z, hz⟩ : ∃ y, ww M n 0 = y := ⟨_, rfl⟩
  have hwid : ∀ W g, RowAt W g n M → Calls Try.prog 78 #[.pointer (some ⟨g, 0, none⟩)] W fun e w' => e = .returned (.int .i64 y) ∧ Below W.heap.size W w' := fun W g hr => hy ▸ width_any n M g W hn6 hr
  have hwor : ∀ k W g, RowAt W g n M → k < n → Calls Try.prog 79 #[.pointer (some ⟨g, 0, none⟩), .int .i64 (k : Nat)] W fun e w' => e = .returned (.int .i64 (ww M n k)) ∧ Below W.heap.size W w' := fun k W g hr hk => worst_ok n k M g W hn6 hk hr hf
  have HL := Lib.hid hlearn; have HWI := Lib.hid hwid; have HWO := Lib.hid hwor; have HB1 := Lib.hid hb1; have HN := Lib.hid hn
  rw [hy]
  have HZ := Lib.hid hz
  clear hlearn hwid hb1 hz1 ht hok hk hf
  by_cases h0 : y = 0
  · have hb0 : (y == 0) = true := by simp [h0]
    rw [if_pos h0]
    clear hwor hy hz hn
    go_enter Try.func41, Try.ntmps41
    go_wp2_with (first
      | (go_at_call 58; refine HL.out.mono ?_; rintro e w2 ⟨rfl, hb2⟩; have HB2 := Lib.hid hb2; clear hb2)
      | (refine wpList_alloc_kv rfl rfl ?_; intro w3 hr3 hb3 hz3; have HR3 := Lib.hid hr3; have HB3 := Lib.hid hb3; have HZ3 := Lib.hid hz3; clear hr3 hb3 hz3)
      | (refine wpList_store_kv rfl _ _ rfl _ n 0 M Z49 rfl rfl hM HR3.out ?_; intro w4 hr4 ho4; have HR4 := Lib.hid hr4; have HB4 := Lib.hid (only_below HB3.out ho4 (Nat.le_refl _)); clear hr4 ho4)
      | (go_at_call 78; refine (HWI.out _ _ HR4.out).mono ?_; rintro e w5 ⟨rfl, hb5⟩; have HB5 := Lib.hid (bT (bT HB2.out HB4.out) hb5); clear hb5))
    go_ret2
    exact ⟨rfl, bT HB1.out HB5.out⟩
  · have hb0 : (y == 0) = false := by simp [h0]
    rw [if_neg h0]
    have hn1 : 0 < n := by
      rcases Nat.eq_zero_or_pos n with h | h
      · subst h; exact absurd hy.symm (by simpa [wd] using h0)
      · exact h
    have hwor0 : ∀ W g, RowAt W g n M → Calls Try.prog 79 #[.pointer (some ⟨g, 0, none⟩), .int .i64 0] W fun e w' => e = .returned (.int .i64 z) ∧ Below W.heap.size W w' := fun W g hr => hz ▸ hwor 0 W g hr hn1
    have HW0 := Lib.hid hwor0
    clear hwor hwor0 hy hz hn
    go_enter Try.func41, Try.ntmps41
    go_wp2_with (first
      | (go_at_call 58; refine HL.out.mono ?_; rintro e w2 ⟨rfl, hb2⟩; have HB2 := Lib.hid hb2; clear hb2)
      | (refine wpList_alloc_kv rfl rfl ?_; intro w3 hr3 hb3 hz3; have HR3 := Lib.hid hr3; have HB3 := Lib.hid hb3; have HZ3 := Lib.hid hz3; clear hr3 hb3 hz3)
      | (refine wpList_store_kv rfl _ _ rfl _ n 0 M Z49 rfl rfl hM HR3.out ?_; intro w4 hr4 ho4; have HR4 := Lib.hid hr4; have HB4 := Lib.hid (only_below HB3.out ho4 (Nat.le_refl _)); clear hr4 ho4)
      | (go_at_call 78; refine (HWI.out _ _ HR4.out).mono ?_; rintro e w5 ⟨rfl, hb5⟩; have HR5 := Lib.hid (HR4.out.below hb5 HR4.out.lt); have HB5 := Lib.hid (bT (bT HB2.out HB4.out) hb5); clear hb5)
      | (go_at_call 79; refine (HW0.out _ _ HR5.out).mono ?_; rintro e w6 ⟨rfl, hb6⟩; have HR6 := Lib.hid (HR5.out.below hb6 HR5.out.lt); have HB6 := Lib.hid (bT HB5.out hb6); have k6 := (HB6.out.cell (p := ⟨w.heap.size, 0, none⟩) hl1).trans k0; clear hb6))
    go_loopw [6, 7, 23] (fun b l i wr => ∃ k : Nat, i = .int .i64 k ∧ k ≤ n ∧ b = .int .i64 (askSt M n k).1 ∧ l = .int .i64 (askSt M n k).2 ∧ Below w6.heap.size w6 wr) (fun _ _ i _ => n - (intOf i).toNat)
    case atStart => exact ⟨0, rfl, Nat.zero_le _, rfl, by simp only [askSt]; rw [HZ.out], Below.refl _ _⟩
    case round =>
      obtain ⟨k, rfl, hk, rfl, rfl, hb⟩ := hrel
      have HB := Lib.hid hb; clear hb
      by_cases hlt : k < n
      · have HR7 := Lib.hid (HR6.out.below HB.out HR6.out.lt)
        have hcall := HWO.out k wr _ HR7.out hlt
        obtain ⟨v, hv⟩ : ∃ v, ww M n k = v := ⟨_, rfl⟩
        rw [hv] at hcall
        have HE : Hid (askSt M n (k + 1) = if v < (askSt M n k).2 then ((k : Int), v) else askSt M n k) := by show _ = _; simp only [askSt]; rw [hv]
        obtain ⟨⟨s1, s2⟩, hs⟩ : ∃ s, askSt M n k = s := ⟨_, rfl⟩
        rw [hs] at HE ⊢
        dsimp only at HE ⊢
        have HCL := Lib.hid hcall
        clear hcall hv hs
        by_cases hlt2 : v < s2
        · have HE2 : Hid (askSt M n (k + 1) = ((k : Int), v)) := by show _ = _; rw [HE.out, if_pos hlt2]
          go_wp2_with (go_at_call 79; refine HCL.out.mono ?_; rintro e w8 ⟨rfl, hb8⟩; have HB8 := Lib.hid hb8; clear hb8)
          go_roundw
          case rel => exact ⟨k + 1, by go_num, hlt, by rw [HE2.out], by rw [HE2.out], bT HB.out HB8.out⟩
          case measure => simp [intOf]; omega
        · have HE2 : Hid (askSt M n (k + 1) = (s1, s2)) := by show _ = _; rw [HE.out, if_neg hlt2]
          go_wp2_with (go_at_call 79; refine HCL.out.mono ?_; rintro e w8 ⟨rfl, hb8⟩; have HB8 := Lib.hid hb8; clear hb8)
          go_roundw
          case rel => exact ⟨k + 1, by go_num, hlt, by rw [HE2.out], by rw [HE2.out], bT HB.out HB8.out⟩
          case measure => simp [intOf]; omega
      · obtain rfl : k = n := by omega
        go_wp2
        go_ret2
        exact ⟨rfl, bT (bT HB1.out HB6.out) HB.out⟩
end Go.Proofs.Ytmfbfcknnjbabaa
