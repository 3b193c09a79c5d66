/- More words: a truth of the town with a word more is a truth of the town, and differences shrink. -/
import Derived.Test.YtmfbfcknnjbabaaL2
import Derived.Deep.DeepFit
set_option linter.unusedSimpArgs false
set_option linter.unusedVariables false
namespace Go.Proofs.Ytmfbfcknnjbabaa
open Go.RowKit

/-- the words of U say all that the words of T say -/
def Says (U T : Town) : Prop := ∀ x, Sat (fun _ => true) (words U) (words U).length x → Sat (fun _ => true) (words T) (words T).length x
theorem says_snd (T : Town) (y : Snd) : Says (T.snd y) T := fun x h => by
  rw [sat_all] at h ⊢
  intro z hz
  refine h z ?_
  simp only [words, Town.snd, List.map_append, List.mem_append] at hz ⊢
  exact hz.elim (fun k => Or.inl (Or.inl k)) Or.inr
theorem says_slp (T : Town) (y : Slp) : Says (T.slp y) T := fun x h => by
  rw [sat_all] at h ⊢
  intro z hz
  refine h z ?_
  simp only [words, Town.slp, List.map_append, List.mem_append] at hz ⊢
  exact hz.elim Or.inl fun k => Or.inr (Or.inl k)
theorem says_none {T U : Town} (hok : T.ok = true) (huk : U.ok = true) (hs : Says U T) (hk : kn T = none) : kn U = none := by
  cases hu : kn U with
  | none => rfl
  | some N =>
    have a := heard_kn hok
    have b := heard_kn huk
    rw [hk] at a
    rw [hu] at b
    obtain ⟨x1, x2⟩ := (b.2 _).1 (fits_zero b.1)
    exact (a _ x1 (hs _ x2)).elim
theorem says_le {T U : Town} {M N : List Int} (hok : T.ok = true) (huk : U.ok = true) (hs : Says U T) (hk : kn T = some M) (hu : kn U = some N) {p q : Nat} (hp : p < 7) (hq : q < 7) : D N p q ≤ D M p q := by
  have a := heard_kn hok
  have b := heard_kn huk
  rw [hk] at a
  rw [hu] at b
  obtain ⟨x1, x2⟩ := (b.2 _).1 (pt_fits b.1 hp)
  have h := (a.2 _).2 ⟨x1, hs _ x2⟩ p q hp hq
  have := b.1.diag p hp
  simp only [pt] at h
  omega
/-- which is higher stays known -/
theorem hiB_stays {a b a' b' : Int} (h1 : a ≤ a') (h2 : a' ≤ b') (h3 : b' ≤ b) : hiB (a, b) = 3 ∨ hiB (a', b') = hiB (a, b) := by
  simp only [hiB]
  by_cases c1 : 0 < a
  · right; rw [if_pos c1, if_pos (by omega)]
  · rw [if_neg c1]
    by_cases c2 : b ≤ 0
    · right; rw [if_pos c2, if_neg (by omega), if_pos (by omega)]
    · left; rw [if_neg c2]
theorem clo_le {M : List Int} (h : Clo M) {p q : Nat} (hp : p < 7) (hq : q < 7) : -D M q p ≤ D M p q := by
  have f1 := h.tri p q p hp hq hp
  have f2 := h.diag p hp
  omega
end Go.Proofs.Ytmfbfcknnjbabaa

namespace Go.Proofs.Ytmfbfcknnjbabaa
open Go.RowKit

theorem box_more (w : World) (W : Int) (p q : Option Addr) (m n c d : Nat) (x : Snd) (z : Slp) (a b t y : Int) :
    ∃ w1, ((w.alloc (Obj.cells #[Value.int IntKind.i64 W, Value.slice p m c, Value.slice q n d] 25)).alloc (Obj.cells #[.int .i64 x.well, .int .i64 x.low, .int .i64 x.high, .int .i64 z.a, .int .i64 z.b, .int .i64 z.low, .int .i64 z.high] 64)).alloc (Obj.cells #[.int .i64 a, .int .i64 b, .int .i64 t, .int .i64 y] 51) = w1 ∧ Below w.heap.size w w1 ∧ w1.heap.size = w.heap.size + 1 + 1 + 1 ∧
      w1.cell? ⟨w.heap.size, 0, none⟩ = some (.int .i64 W) ∧ w1.cell? ⟨w.heap.size, 1, none⟩ = some (.slice p m c) ∧ w1.cell? ⟨w.heap.size, 2, none⟩ = some (.slice q n d) ∧
      w1.cell? ⟨w.heap.size + 1 + 1, 0, none⟩ = some (.int .i64 a) ∧ w1.cell? ⟨w.heap.size + 1 + 1, 1, none⟩ = some (.int .i64 b) ∧
      w1.heap[w.heap.size + 1]? = some (.cells #[.int .i64 x.well, .int .i64 x.low, .int .i64 x.high, .int .i64 z.a, .int .i64 z.b, .int .i64 z.low, .int .i64 z.high] 64 (0, 0)) := by
  refine ⟨_, rfl, bA (bA (bA (Below.refl _ _) _) _) _, by simp, by go_simp, by go_simp, by go_simp, by go_simp, by go_simp, ?_⟩
  refine (Below.heap_alloc _ _ _ (by simp)).trans ?_
  have := heap_alloc_new (w.alloc (Obj.cells #[Value.int IntKind.i64 W, Value.slice p m c, Value.slice q n d] 25)) (Obj.cells #[.int .i64 x.well, .int .i64 x.low, .int .i64 x.high, .int .i64 z.a, .int .i64 z.b, .int .i64 z.low, .int .i64 z.high] 64)
  simpa using this

set_option maxRecDepth 100000 in
set_option maxHeartbeats 4000000 in
theorem more_skip (T : Town) (p q : Option Addr) (c d : Nat) (x : Snd) (z : Slp) (a b t y : Int) (w : World) (ht : TownIn w w.heap.size T p q)
    (hs : (rdy T && (within a 0 (T.W - 1) && within b 0 (T.W - 1))) = false) :
    Calls Try.prog 11 #[.agg #[.int .i64 T.W, .slice p T.s.length c, .slice q T.r.length d], .agg #[.int .i64 x.well, .int .i64 x.low, .int .i64 x.high, .int .i64 z.a, .int .i64 z.b, .int .i64 z.low, .int .i64 z.high], .agg #[.int .i64 a, .int .i64 b, .int .i64 t, .int .i64 y]] w fun e w' => e = .returned (.bool true) ∧ Below w.heap.size w w' := by
  obtain ⟨w1, hw1, hb1, hz1, k0, k1, k2, k3, k4, xm⟩ := box_more w T.W p q T.s.length T.r.length c d x z a b t y
  have l0 : w.heap.size < w1.heap.size := by omega
  have l1 : w.heap.size + 1 + 1 < w1.heap.size := by omega
  have lm : w.heap.size + 1 < w1.heap.size := by omega
  have HBB1 := Lib.hid (Below.refl w1.heap.size w1)
  have HB1 := Lib.hid hb1
  have XM := Lib.hid xm
  have hrdy := ready_any T p q c d w1 (ht.bel hb1)
  clear xm
  cases hr : rdy T with
  | false =>
    rw [hr] at hrdy
    have HR := Lib.hid hrdy
    clear hrdy hr hs ht hb1
    go_enter Try.func11, Try.ntmps11
    go_wp2_with fail
    refine (HR.out).mono ?_
    rintro e w2 ⟨rfl, hb2⟩
    have HBB2 := Lib.hid (bT HBB1.out hb2)
    clear hb2
    have c20 := (HBB2.out.cell (p := ⟨w.heap.size, 0, none⟩) l0).trans k0
    have c21 := (HBB2.out.cell (p := ⟨w.heap.size, 1, none⟩) l0).trans k1
    have c22 := (HBB2.out.cell (p := ⟨w.heap.size, 2, none⟩) l0).trans k2
    have c23 := (HBB2.out.cell (p := ⟨w.heap.size + 1 + 1, 0, none⟩) l1).trans k3
    have c24 := (HBB2.out.cell (p := ⟨w.heap.size + 1 + 1, 1, none⟩) l1).trans k4
    go_wp2_with fail
    refine (works_ex _).mono ?_
    rintro e w9 ⟨rfl, hb9⟩
    have HB9 := Lib.hid (bT HB1.out (bT HBB2.out hb9))
    clear hb9
    go_wp2_with fail
    go_ret
    exact ⟨rfl, HB9.out⟩
  | true =>
    obtain ⟨hok, hW5, hm8⟩ := rdy_ok hr
    have hW := ok_W hok
    rw [hr] at hrdy
    rw [hr, Bool.true_and] at hs
    have HR := Lib.hid hrdy
    have hia : ∀ x, within a 0 (T.W - 1) = x → ∀ V, Calls Try.prog 48 #[.agg #[.int .i64 T.W, .slice p T.s.length c, .slice q T.r.length d], .int .i64 a] V fun e w' => e = .returned (.bool x) ∧ Below V.heap.size V w' := fun x hx V => isWell_b T.W a _ _ x V (by omega) (by omega) hx
    have hib : ∀ x, within b 0 (T.W - 1) = x → ∀ V, Calls Try.prog 48 #[.agg #[.int .i64 T.W, .slice p T.s.length c, .slice q T.r.length d], .int .i64 b] V fun e w' => e = .returned (.bool x) ∧ Below V.heap.size V w' := fun x hx V => isWell_b T.W b _ _ x V (by omega) (by omega) hx
    clear hrdy hr ht hb1
    cases ha : within a 0 (T.W - 1) with
    | false =>
      have HA := Lib.hid (hia false ha)
      clear hia hib hs ha
      go_enter Try.func11, Try.ntmps11
      go_wp2_with fail
      refine (HR.out).mono ?_
      rintro e w2 ⟨rfl, hb2⟩
      have HBB2 := Lib.hid (bT HBB1.out hb2)
      clear hb2
      have c20 := (HBB2.out.cell (p := ⟨w.heap.size, 0, none⟩) l0).trans k0
      have c21 := (HBB2.out.cell (p := ⟨w.heap.size, 1, none⟩) l0).trans k1
      have c22 := (HBB2.out.cell (p := ⟨w.heap.size, 2, none⟩) l0).trans k2
      have c23 := (HBB2.out.cell (p := ⟨w.heap.size + 1 + 1, 0, none⟩) l1).trans k3
      have c24 := (HBB2.out.cell (p := ⟨w.heap.size + 1 + 1, 1, none⟩) l1).trans k4
      go_wp2_with fail
      refine (HA.out _).mono ?_
      rintro e w3 ⟨rfl, hb3⟩
      have HBB3 := Lib.hid (bT HBB2.out hb3)
      clear hb3
      have c30 := (HBB3.out.cell (p := ⟨w.heap.size, 0, none⟩) l0).trans k0
      have c31 := (HBB3.out.cell (p := ⟨w.heap.size, 1, none⟩) l0).trans k1
      have c32 := (HBB3.out.cell (p := ⟨w.heap.size, 2, none⟩) l0).trans k2
      have c33 := (HBB3.out.cell (p := ⟨w.heap.size + 1 + 1, 0, none⟩) l1).trans k3
      have c34 := (HBB3.out.cell (p := ⟨w.heap.size + 1 + 1, 1, none⟩) l1).trans k4
      clear c20 c21 c22 c23 c24
      go_wp2_with fail
      refine (works_ex _).mono ?_
      rintro e w9 ⟨rfl, hb9⟩
      have HB9 := Lib.hid (bT HB1.out (bT HBB3.out hb9))
      clear hb9
      go_wp2_with fail
      go_ret
      exact ⟨rfl, HB9.out⟩
    | true =>
      rw [ha, Bool.true_and] at hs
      have HA := Lib.hid (hia true ha)
      have HB := Lib.hid (hib false hs)
      clear hia hib hs ha
      go_enter Try.func11, Try.ntmps11
      go_wp2_with fail
      refine (HR.out).mono ?_
      rintro e w2 ⟨rfl, hb2⟩
      have HBB2 := Lib.hid (bT HBB1.out hb2)
      clear hb2
      have c20 := (HBB2.out.cell (p := ⟨w.heap.size, 0, none⟩) l0).trans k0
      have c21 := (HBB2.out.cell (p := ⟨w.heap.size, 1, none⟩) l0).trans k1
      have c22 := (HBB2.out.cell (p := ⟨w.heap.size, 2, none⟩) l0).trans k2
      have c23 := (HBB2.out.cell (p := ⟨w.heap.size + 1 + 1, 0, none⟩) l1).trans k3
      have c24 := (HBB2.out.cell (p := ⟨w.heap.size + 1 + 1, 1, none⟩) l1).trans k4
      go_wp2_with fail
      refine (HA.out _).mono ?_
      rintro e w3 ⟨rfl, hb3⟩
      have HBB3 := Lib.hid (bT HBB2.out hb3)
      clear hb3
      have c30 := (HBB3.out.cell (p := ⟨w.heap.size, 0, none⟩) l0).trans k0
      have c31 := (HBB3.out.cell (p := ⟨w.heap.size, 1, none⟩) l0).trans k1
      have c32 := (HBB3.out.cell (p := ⟨w.heap.size, 2, none⟩) l0).trans k2
      have c33 := (HBB3.out.cell (p := ⟨w.heap.size + 1 + 1, 0, none⟩) l1).trans k3
      have c34 := (HBB3.out.cell (p := ⟨w.heap.size + 1 + 1, 1, none⟩) l1).trans k4
      clear c20 c21 c22 c23 c24
      go_wp2_with fail
      refine (HB.out _).mono ?_
      rintro e w4 ⟨rfl, hb4⟩
      have HBB4 := Lib.hid (bT HBB3.out hb4)
      clear hb4
      have c40 := (HBB4.out.cell (p := ⟨w.heap.size, 0, none⟩) l0).trans k0
      have c41 := (HBB4.out.cell (p := ⟨w.heap.size, 1, none⟩) l0).trans k1
      have c42 := (HBB4.out.cell (p := ⟨w.heap.size, 2, none⟩) l0).trans k2
      have c43 := (HBB4.out.cell (p := ⟨w.heap.size + 1 + 1, 0, none⟩) l1).trans k3
      have c44 := (HBB4.out.cell (p := ⟨w.heap.size + 1 + 1, 1, none⟩) l1).trans k4
      clear c30 c31 c32 c33 c34
      go_wp2_with fail
      refine (works_ex _).mono ?_
      rintro e w9 ⟨rfl, hb9⟩
      have HB9 := Lib.hid (bT HB1.out (bT HBB4.out hb9))
      clear hb9
      go_wp2_with fail
      go_ret
      exact ⟨rfl, HB9.out⟩
end Go.Proofs.Ytmfbfcknnjbabaa
