/- Clash and Idle of the program, of a valid town. Made by p4.py. -/
import Derived.Test.YtmfbfcknnjbabaaP3
set_option linter.unusedSimpArgs false
set_option linter.unusedVariables false
namespace Go.Proofs.Ytmfbfcknnjbabaa
open Go.RowKit

/-- what Clash returns, of a valid town of m words -/
def clR (T : Town) (m : Nat) : List Int × Int := match kn T with
  | some _ => ([], 3)
  | none => match findTo (clashP (words T)) (clashL m) (m + 1) with
    | some l => (l, 0)
    | none => ([], 3)
/-- what Idle returns -/
def idR (T : Town) (n m : Nat) : List Int × Int := match kn T with
  | some M => (idL T n (lv M n) m, 0)
  | none => ([], 3)

set_option maxRecDepth 100000 in
set_option maxHeartbeats 2000000 in
theorem idle_er (T : Town) (er : Int) (p q : Option Addr) (c d : Nat) (w : World) (hs : T.s.length ≤ 1000000) (hr : T.r.length ≤ 1000000) (h : learnt T [] = (0, Z49, er)) (f0 : (er != 0) = true) (ht : TownIn w w.heap.size T p q) :
    Calls Try.prog 39 #[.agg #[.int .i64 T.W, .slice p T.s.length c, .slice q T.r.length d]] w fun e w' => e = .returned (.tuple #[.slice none 0 0, .int .i64 er]) ∧ Below w.heap.size w w' := by
  obtain ⟨w1, hw1, hb1, hz1, k0, k1, k2⟩ := box_town w T.W p q T.s.length T.r.length c d
  have hl1 : w.heap.size < w1.heap.size := by omega
  have hlearn := learn_er T er p q c d [] none 0 w1 hs hr h (by simp) ((ht.below hb1).mono hb1.size) (fun h => by simp at h)
  have HL := Lib.hid hlearn; have HB1 := Lib.hid hb1
  clear hlearn hb1 hz1 ht h hs hr
  go_enter Try.func39, Try.ntmps39
  go_wp2_with (first
    | (go_at_call 58; refine HL.out.mono ?_; rintro e w2 ⟨rfl, hb2⟩; have HB2 := Lib.hid hb2; clear hb2)
    | (refine wpList_alloc_kv rfl rfl ?_; intro w3 hr3 hb3 hz3; have HR3 := Lib.hid hr3; have HB3 := Lib.hid hb3; have HZ3 := Lib.hid hz3; clear hr3 hb3 hz3)
    | (refine wpList_store_kv rfl _ _ rfl _ 0 0 Z49 Z49 rfl rfl rfl HR3.out ?_; intro w4 hr4 ho4; go_must (have HB4 := Lib.hid (only_below HB3.out ho4 (Nat.le_refl _)); clear hr4 ho4)))
  go_ret2
  exact ⟨rfl, bT (bT HB1.out HB2.out) HB4.out⟩

set_option maxRecDepth 100000 in
set_option maxHeartbeats 4000000 in
theorem clash_yes (T : Town) (M : List Int) (p q : Option Addr) (c d : Nat) (w : World) (hok : T.ok = true) (hk : kn T = some M) (ht : TownIn w w.heap.size T p q) :
    Calls Try.prog 37 #[.agg #[.int .i64 T.W, .slice p T.s.length c, .slice q T.r.length d]] w fun e w' => e = .returned (.tuple #[.slice none 0 0, .int .i64 3]) ∧ Below w.heap.size w w' := by
  obtain ⟨w1, hw1, hb1, hz1, k0, k1, k2, b26, b30⟩ := box_clash w T.W p q T.s.length T.r.length c d
  have hl1 : w.heap.size < w1.heap.size := by omega
  have hM : M.length = 49 := hTo_len hk
  have hlearn := learn_nil T M p q c d w1 hok hk (ht.bel hb1)
  have HL := Lib.hid hlearn; have HB1 := Lib.hid hb1; have B26 := Lib.hid b26; have B30 := Lib.hid b30
  have hz : w.heap.size + 1 < w1.heap.size ∧ w.heap.size + 1 + 1 < w1.heap.size := by omega
  clear hlearn hb1 hz1 ht hok hk b26 b30
  go_enter Try.func37, Try.ntmps37
  go_wp2_with fail
  refine HL.out.mono ?_
  rintro e w2 ⟨rfl, hb2⟩
  have HB2 := Lib.hid hb2
  clear hb2
  go_wp2_with (first
    | (refine wpList_alloc_kv rfl rfl ?_; intro w3 hr3 hb3 hz3; have HR3 := Lib.hid hr3; have HB3 := Lib.hid hb3; clear hr3 hb3 hz3)
    | (refine wpList_store_kv rfl _ _ rfl _ T.W 0 M Z49 rfl rfl hM HR3.out ?_; intro w4 hr4 ho4; go_must (have hb4 := bT HB2.out (only_below HB3.out ho4 (Nat.le_refl _)); have HB4 := Lib.hid hb4; have b26 := Boxed.bel B26.out hb4 hz.1; have b30 := Boxed.bel B30.out hb4 hz.2; have c26 := Boxed.cell b26; have c30 := Boxed.cell b30; have f26 := Boxed.frozen b26; have f30 := Boxed.frozen b30; clear b26 b30; clear hr4 ho4 hb4)))
  refine bodyPost_ret (v := .tuple #[.slice none 0 0, .int .i64 3]) (by simp [results, Try.results37, go_sem, c26, c30]) rfl ⟨rfl, ?_⟩
  repeat (first | exact bT HB1.out HB4.out | refine bS ?_ (by dsimp only; omega) _)

def ClPost (l : List Int × Int) (w : World) (e : Ending) (w' : World) : Prop := ∃ p c, e = .returned (.tuple #[.slice p l.1.length c, .int .i64 l.2]) ∧ Ints w' p l.1 ∧ Below w.heap.size w w'
theorem clash_any (T : Town) (m : Nat) (p q : Option Addr) (c d : Nat) (w : World) (hok : T.ok = true) (hm : T.s.length + T.r.length = m) (ht : TownIn w w.heap.size T p q) :
    Calls Try.prog 37 #[.agg #[.int .i64 T.W, .slice p T.s.length c, .slice q T.r.length d]] w (ClPost (clR T m) w) := by
  have hW := ok_W hok
  unfold clR
  cases hk : kn T with
  | some M => exact (clash_yes T M p q c d w hok hk ht).mono fun e w' ⟨h1, h2⟩ => ⟨none, 0, h1, fun h => absurd h (Nat.lt_irrefl _), h2⟩
  | none =>
    have := callsIn_wide.1 (clash_no T T.W.toNat m p q c d w hok hk (by omega) hm ht)
    refine this.mono ?_
    rintro e w' ⟨hr, hb⟩
    dsimp only
    revert hr
    cases findTo (clashP (words T)) (clashL m) (m + 1) with
    | some l => rintro ⟨p', c', rfl, ho⟩; exact ⟨p', c', rfl, ints_own ho, hb⟩
    | none => intro h; exact ⟨none, 0, h, fun h => absurd h (Nat.lt_irrefl _), hb⟩
theorem idle_any (T : Town) (n m : Nat) (p q : Option Addr) (c d : Nat) (w : World) (hok : T.ok = true) (hn : T.W = n) (hm : T.s.length + T.r.length = m) (ht : TownIn w w.heap.size T p q) :
    Calls Try.prog 39 #[.agg #[.int .i64 T.W, .slice p T.s.length c, .slice q T.r.length d]] w (ClPost (idR T n m) w) := by
  have hlen := ok_len hok
  unfold idR
  cases hk : kn T with
  | some M => exact (idle_ok T M n m p q c d w hok hk hn hm ht).mono fun e w' ⟨p', c', h1, h2, h3⟩ => ⟨p', c', h1, h2, h3⟩
  | none => exact (idle_er T 3 p q c d w (by omega) (by omega) (by simp [learnt, hok, hk, asks]) (by simp) ht).mono fun e w' ⟨h1, h2⟩ => ⟨none, 0, h1, fun h => absurd h (Nat.lt_irrefl _), h2⟩
theorem clR_turn {T : Town} {m : Nat} (hok : T.ok = true) : clR T.turn m = clR T m := by
  have hW := ok_W hok
  unfold clR
  rcases kn_turn hok (n := 0) (by omega) with ⟨h1, h2⟩ | ⟨M, N, h1, h2, _⟩
  · rw [h1, h2, clash_turn hok]
  · rw [h1, h2]
theorem idR_turn {T : Town} {n m : Nat} (hok : T.ok = true) (hn : n ≤ 6) : idR T.turn n m = idR T n m := by
  unfold idR
  rcases kn_turn hok hn with ⟨h1, h2⟩ | ⟨M, N, h1, h2, _⟩
  · rw [h1, h2]
  · rw [h1, h2]; dsimp only; rw [idL_turn hok hn h1 h2]
end Go.Proofs.Ytmfbfcknnjbabaa
