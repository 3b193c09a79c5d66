/- Rosters of hours: the prices, what may be, and who finds by them. -/
import Derived.Test.YtegkgfiaegpihaaF3

import Derived.Shelf.Abstract

set_option linter.unusedSimpArgs false

set_option linter.unusedVariables false

namespace Go.Proofs.Ytegkgfiaegpihaa

open Go.RowKit

def prC (D : Ro) : Pr := fun s h => some (mv D s h * D.co s)
def prN (D : Ro) : Pr := fun s h => some (min 1 (mv D s h))
def prO (P : Pr) (M : Nat → Nat → Bool) : Pr := fun s h => if M s h then P s h else none
/-- what may be: what the function that is called says, wherever it is called -/
structure MayOk (w0 : World) (D : Ro) (M : Nat → Nat → Bool) (gf : Nat) (caps : Array Value) : Prop where
  en : ∀ (args : Array Value) (W : World), (callFunc gf args).run Try.prog W = .ok (.enter gf args) W
  run : ∀ V, Below w0.heap.size w0 V → ∀ s h : Nat, s < D.m → h < D.n → Calls Try.prog gf (#[.int .i64 (s : Int), .int .i64 (h : Int)] ++ caps) V fun e V' => e = .returned (.bool (M s h)) ∧ Below V.heap.size V V'
theorem PrOk.up {w0 w1 : World} {D : Ro} {P : Pr} {gf : Nat} {caps : Array Value} (h : PrOk w0 D P gf caps) (hb : Below w0.heap.size w0 w1) : PrOk w1 D P gf caps := ⟨h.en, fun V hV => h.run V (bT hb hV)⟩
theorem MayOk.up {w0 w1 : World} {D : Ro} {M : Nat → Nat → Bool} {gf : Nat} {caps : Array Value} (h : MayOk w0 D M gf caps) (hb : Below w0.heap.size w0 w1) : MayOk w1 D M gf caps := ⟨h.en, fun V hV => h.run V (bT hb hV)⟩
theorem prC_bd {D : Ro} (hD : OkP D) : PrB D (prC D) := fun s h hs hh c hc => by cases hc; exact cost1_bd hD hs ⟨by omega, by omega⟩
theorem prN_bd {D : Ro} (hD : OkP D) : PrB D (prN D) := fun s h hs hh c hc => by cases hc; have := mvP_bd (hD.st s hs).hs (show 0 ≤ (h : Int) ∧ (h : Int) < D.n by omega); unfold mv; omega
theorem prO_bd {D : Ro} {P : Pr} {M : Nat → Nat → Bool} (h : PrB D P) : PrB D (prO P M) := fun s x hs hh c hc => by
  unfold prO at hc
  split at hc
  · exact h s x hs hh c hc
  · cases hc
set_option maxRecDepth 100000 in
set_option maxHeartbeats 2000000 in
theorem costs1_run (D : Ro) (p q : Option Addr) (d bx : Nat) (hD : OkP D) (V : World) (hI : RoIn V V.heap.size D p q) (h1 : V.cell? ⟨bx, 1, none⟩ = some (.slice q D.m d)) (s h : Nat) (hs : s < D.m) (hh : h < D.n) :
    Calls Try.prog 93 #[.int .i64 (s : Int), .int .i64 (h : Int), .pointer (some ⟨bx, 0, none⟩)] V fun e V' => e = .returned (.tuple #[.int .i64 (mv D s h * D.co s), .bool true]) ∧ Below V.heap.size V V' := by
  obtain ⟨b, o, rfl, hbl, hc⟩ := hI.st (by omega)
  have e0 := hc.c0 s hs; have e1 := hc.c1 s hs; have e2 := hc.c2 s hs; have e3 := hc.c3 s hs
  obtain ⟨w2, u, hw2, hb2, hz2, G0, G1, G2, G3, _⟩ := box_st V (D.hs s) (D.fr s) (D.to s) (D.co s)
  have HB2 := Lib.hid hb2
  have hsm : (s : Int) < (D.m : Int) := by omega
  have q1 := hs_bd hD hs; have q3 := hD.n
  have q4 : -100 ≤ (h : Int) ∧ (h : Int) ≤ 100 := by omega
  have q5 := cost1_bd hD hs (h := (h : Int)) ⟨by omega, by omega⟩
  have t1 : IntKind.i64.wrap (mvP (D.hs s) (h : Int) * D.co s) = mv D s h * D.co s := IntWalk.i64_in _ (by unfold mv at q5; omega)
  have HQ1 := Lib.hid q1; have HQ4 := Lib.hid q4
  clear hb2 hz2 q1 q3 q4 q5 hI hc hD
  go_enter Try.func93, Try.ntmps93
  go_wp2
  refine quiet_e (by kernel_rfl) (by kernel_rfl) ?_
  repeat (first | go_big_quiet_step ((first | (go_at_call 84; exact quiet_x (moveOf_any _ _ _ _ _ _ HQ1.out HQ4.out)))) | quiet_step ((first | (go_at_call 84; exact quiet_x (moveOf_any _ _ _ _ _ _ HQ1.out HQ4.out)))))
  refine wpQuiet_nil ?_
  intro w6 hw6
  obtain ⟨y3, rfl⟩ := hw6
  go_wp2
  go_ret2
  exact ⟨rfl, bT HB2.out y3.b⟩
set_option maxRecDepth 100000 in
set_option maxHeartbeats 2000000 in
theorem counts1_run (D : Ro) (p q : Option Addr) (d bx : Nat) (hD : OkP D) (V : World) (hI : RoIn V V.heap.size D p q) (h1 : V.cell? ⟨bx, 1, none⟩ = some (.slice q D.m d)) (s h : Nat) (hs : s < D.m) (hh : h < D.n) :
    Calls Try.prog 107 #[.int .i64 (s : Int), .int .i64 (h : Int), .pointer (some ⟨bx, 0, none⟩)] V fun e V' => e = .returned (.tuple #[.int .i64 (min 1 (mv D s h)), .bool true]) ∧ Below V.heap.size V V' := by
  obtain ⟨b, o, rfl, hbl, hc⟩ := hI.st (by omega)
  have e0 := hc.c0 s hs; have e1 := hc.c1 s hs; have e2 := hc.c2 s hs; have e3 := hc.c3 s hs
  have hsm : (s : Int) < (D.m : Int) := by omega
  have q1 := hs_bd hD hs; have q3 := hD.n
  have q4 : -100 ≤ (h : Int) ∧ (h : Int) ≤ 100 := by omega
  have t1 : (if mvP (D.hs s) (h : Int) < 1 then mvP (D.hs s) (h : Int) else 1) = min 1 (mv D s h) := by unfold mv; rw [Int.min_def]; split <;> split <;> omega
  have t2 : (if 1 < mvP (D.hs s) (h : Int) then 1 else mvP (D.hs s) (h : Int)) = min 1 (mv D s h) := by unfold mv; rw [Int.min_def]; split <;> split <;> omega
  have HQ1 := Lib.hid q1; have HQ4 := Lib.hid q4
  clear q1 q3 q4 hI hc hD
  go_enter Try.func107, Try.ntmps107
  go_wp2_with fail
  refine (moveOf_any _ _ _ _ _ _ HQ1.out HQ4.out).mono ?_
  rintro e w' ⟨rfl, hb⟩
  have HB := Lib.hid hb; clear hb
  go_wp2
  go_ret2
  exact ⟨rfl, HB.out⟩
set_option maxRecDepth 100000 in
set_option maxHeartbeats 2000000 in
theorem within1_run (D : Ro) (p q : Option Addr) (d bx fx : Nat) (far : Int) (hD : OkP D) (V : World) (hI : RoIn V V.heap.size D p q) (h1 : V.cell? ⟨bx, 1, none⟩ = some (.slice q D.m d)) (h2 : V.cell? ⟨fx, 0, none⟩ = some (.int .i64 far)) (s h : Nat) (hs : s < D.m) (hh : h < D.n) :
    Calls Try.prog 97 #[.int .i64 (s : Int), .int .i64 (h : Int), .pointer (some ⟨bx, 0, none⟩), .pointer (some ⟨fx, 0, none⟩)] V fun e V' => e = .returned (.bool (decide (mv D s h ≤ far))) ∧ Below V.heap.size V V' := by
  obtain ⟨b, o, rfl, hbl, _⟩ := hI.st (by omega)
  have C0 : ∀ y : Ext V, y.v.cell? ⟨b, o + s * 4, none⟩ = some (.int .i64 (D.hs s)) := fun y => (hI.bel y.b).c0 hs
  have C1 : ∀ y : Ext V, y.v.cell? ⟨b, o + s * 4 + 1, none⟩ = some (.int .i64 (D.fr s)) := fun y => (hI.bel y.b).c1 hs
  have C2 : ∀ y : Ext V, y.v.cell? ⟨b, o + s * 4 + 2, none⟩ = some (.int .i64 (D.to s)) := fun y => (hI.bel y.b).c2 hs
  have C3 : ∀ y : Ext V, y.v.cell? ⟨b, o + s * 4 + 3, none⟩ = some (.int .i64 (D.co s)) := fun y => (hI.bel y.b).c3 hs
  have B1 : ∀ y : Ext V, y.v.cell? ⟨bx, 1, none⟩ = some (.slice (some ⟨b, o, none⟩) D.m d) := fun y => (y.b.cell (p := ⟨bx, 1, none⟩) (World.block_lt_of_cell? _ _ h1)).trans h1
  have B2 : ∀ y : Ext V, y.v.cell? ⟨fx, 0, none⟩ = some (.int .i64 far) := fun y => (y.b.cell (p := ⟨fx, 0, none⟩) (World.block_lt_of_cell? _ _ h2)).trans h2
  have hsm : (s : Int) < (D.m : Int) := by omega
  have q1 := hs_bd hD hs; have q3 := hD.n
  have q4 : -100 ≤ (h : Int) ∧ (h : Int) ≤ 100 := by omega
  have HQ1 := Lib.hid q1; have HQ4 := Lib.hid q4
  clear q1 q3 q4 hI hD h1 h2 hbl
  go_enter Try.func97, Try.ntmps97
  go_wp2_with fail
  refine quiet_e (w := V) (x := ⟨V, Below.refl _ _⟩) (by kernel_rfl) (by kernel_rfl) ?_
  repeat (first | go_big_quiet_step (first | (go_at_call 84; exact quiet_x (moveOf_any _ _ _ _ _ _ HQ1.out HQ4.out))) | quiet_step (first | (go_at_call 84; exact quiet_x (moveOf_any _ _ _ _ _ _ HQ1.out HQ4.out))))
  refine wpQuiet_nil ?_
  intro w6 hw6
  obtain ⟨y3, rfl⟩ := hw6
  go_wp2
  go_ret
  exact ⟨rfl, y3.b⟩
set_option maxRecDepth 100000 in
set_option maxHeartbeats 2000000 in
theorem only1_run (w : World) (D : Ro) (P : Pr) (M : Nat → Nat → Bool) (gf gm pb mbx : Nat) (caps capm : Array Value) (hP : PrOk w D P gf caps) (hM : MayOk w D M gm capm) (V : World) (hV : Below w.heap.size w V)
    (h1 : V.cell? ⟨mbx, 0, none⟩ = some (.func (.func gm) #[] capm)) (h2 : V.cell? ⟨pb, 0, none⟩ = some (.func (.func gf) #[] caps)) (s h : Nat) (hs : s < D.m) (hh : h < D.n) :
    Calls Try.prog 96 #[.int .i64 (s : Int), .int .i64 (h : Int), .pointer (some ⟨mbx, 0, none⟩), .pointer (some ⟨pb, 0, none⟩)] V fun e V' => e = .returned (.tuple #[.int .i64 ((prO P M s h).getD 0), .bool (prO P M s h).isSome]) ∧ Below V.heap.size V V' := by
  have EM := hM.en; have EP := hP.en
  have HM := Lib.hid (hM.run V hV s h hs hh)
  have HP := Lib.hid (fun V' (hb : Below V.heap.size V V') => hP.run V' (bT hV hb) s h hs hh)
  have H2 := Lib.hid h2; have HL := Lib.hid (World.block_lt_of_cell? _ _ h2)
  cases hm : M s h with
  | false =>
    rw [hm] at HM
    have HR : Hid (prO P M s h = none) := by unfold prO; rw [hm]; rfl
    rw [HR.out]
    clear hm hP hM
    go_enter Try.func96, Try.ntmps96
    go_wp2_with fail
    refine (HM.out).mono ?_
    rintro e w1 ⟨rfl, hb1⟩
    have HB1 := Lib.hid hb1; clear hb1
    go_wp2
    go_ret2
    exact ⟨rfl, HB1.out⟩
  | true =>
    rw [hm] at HM
    have HR : Hid (prO P M s h = P s h) := by unfold prO; rw [hm]; rfl
    rw [HR.out]
    clear hm hP hM
    go_enter Try.func96, Try.ntmps96
    go_wp2_with fail
    refine (HM.out).mono ?_
    rintro e w1 ⟨rfl, hb1⟩
    have HB1 := Lib.hid hb1
    have h2' := (hb1.cell (p := ⟨pb, 0, none⟩) HL.out).trans H2.out
    clear hb1
    go_wp2_with fail
    refine (HP.out _ HB1.out).mono ?_
    rintro e w3 ⟨rfl, hb3⟩
    have HB3 := Lib.hid (bT HB1.out hb3); clear hb3
    go_wp2
    go_ret2
    exact ⟨rfl, HB3.out⟩
set_option maxRecDepth 100000 in
set_option maxHeartbeats 2000000 in
theorem costs_any (D : Ro) (p q : Option Addr) (c d : Nat) (hD : OkP D) (w : World) (hI : RoIn w w.heap.size D p q) :
    Calls Try.prog 64 #[.agg #[.slice p D.n c, .slice q D.m d]] w fun e w' => ∃ caps, e = .returned (.func (.func 93) #[] caps) ∧ Below w.heap.size w w' ∧ PrOk w' D (prC D) 93 caps := by
  obtain ⟨w1, x, hw1, hb1, hz1, F0, F1, _⟩ := box_ro w p q D.n D.m c d
  have HB := Lib.hid hb1; have HI := Lib.hid hI; have HD := Lib.hid hD
  have HF := Lib.hid F1
  clear hb1 hz1 hI hD
  go_enter Try.func64, Try.ntmps64
  go_wp2
  go_ret
  refine ⟨_, rfl, bT HB.out x.b, enters_of Try.func93 (by kernel_rfl) rfl, fun V hV s h hs hh => ?_⟩
  exact costs1_run D p q d w.heap.size HD.out V (HI.out.bel (bT HB.out (bT x.b hV))) (HF.out ⟨V, bT x.b hV⟩) s h hs hh
set_option maxRecDepth 100000 in
set_option maxHeartbeats 2000000 in
theorem counts_any (D : Ro) (p q : Option Addr) (c d : Nat) (hD : OkP D) (w : World) (hI : RoIn w w.heap.size D p q) :
    Calls Try.prog 89 #[.agg #[.slice p D.n c, .slice q D.m d]] w fun e w' => ∃ caps, e = .returned (.func (.func 107) #[] caps) ∧ Below w.heap.size w w' ∧ PrOk w' D (prN D) 107 caps := by
  obtain ⟨w1, x, hw1, hb1, hz1, F0, F1, _⟩ := box_ro w p q D.n D.m c d
  have HB := Lib.hid hb1; have HI := Lib.hid hI; have HD := Lib.hid hD
  have HF := Lib.hid F1
  clear hb1 hz1 hI hD
  go_enter Try.func89, Try.ntmps89
  go_wp2
  go_ret
  refine ⟨_, rfl, bT HB.out x.b, enters_of Try.func107 (by kernel_rfl) rfl, fun V hV s h hs hh => ?_⟩
  exact counts1_run D p q d w.heap.size HD.out V (HI.out.bel (bT HB.out (bT x.b hV))) (HF.out ⟨V, bT x.b hV⟩) s h hs hh
set_option maxRecDepth 100000 in
set_option maxHeartbeats 2000000 in
theorem withinF_any (D : Ro) (p q : Option Addr) (c d : Nat) (far : Int) (hD : OkP D) (w : World) (hI : RoIn w w.heap.size D p q) :
    Calls Try.prog 67 #[.agg #[.slice p D.n c, .slice q D.m d], .int .i64 far] w fun e w' => ∃ caps, e = .returned (.func (.func 97) #[] caps) ∧ Below w.heap.size w w' ∧ MayOk w' D (fun s h => decide (mv D s h ≤ far)) 97 caps := by
  obtain ⟨w1, x, hw1, hb1, hz1, F0, F1, _⟩ := box_ro w p q D.n D.m c d
  obtain ⟨w2, x2, hw2, hb2, hz2, G0, _⟩ := box_one x.v far
  have HB := Lib.hid (bT hb1 (bT x.b hb2)); have HI := Lib.hid hI; have HD := Lib.hid hD
  have HF : Hid (∀ y : Ext w2, y.v.cell? ⟨w.heap.size, 1, none⟩ = some (.slice q D.m d)) := fun y => F1 (y.up (bT x.b hb2)); have HG := Lib.hid G0
  clear hb1 hz1 hI hD hb2 hz2
  go_enter Try.func67, Try.ntmps67
  go_wp2
  go_ret
  refine ⟨_, rfl, bT HB.out x2.b, enters_of Try.func97 (by kernel_rfl) rfl, fun V hV s h hs hh => ?_⟩
  exact within1_run D p q d w.heap.size x.v.heap.size far HD.out V (HI.out.bel (bT HB.out (bT x2.b hV))) (HF.out ⟨V, bT x2.b hV⟩) (HG.out ⟨V, bT x2.b hV⟩) s h hs hh
theorem box_fn (w : World) (v : Value) (t : TypeId) (h : v.oneCell' = true) (hc : v.cells = #[v]) :
    ∃ (w1 : World), w.alloc (Obj.cells #[v] t) = w1 ∧ Below w.heap.size w w1 ∧ w1.heap.size = w.heap.size + 1 ∧ (∀ V, Below w1.heap.size w1 V → V.cell? ⟨w.heap.size, 0, none⟩ = some v) := by
  have h0 : (w.alloc (Obj.cells #[v] t)).cell? ⟨w.heap.size, 0, none⟩ = some v := by go_simp
  exact ⟨_, rfl, bA (Below.refl _ _) _, by simp, fun V hV => (hV.cell (p := ⟨w.heap.size, 0, none⟩) (by simp)).trans h0⟩
set_option maxRecDepth 100000 in
set_option maxHeartbeats 2000000 in
theorem only_any (D : Ro) (P : Pr) (M : Nat → Nat → Bool) (gf gm : Nat) (caps capm : Array Value) (w : World) (hP : PrOk w D P gf caps) (hM : MayOk w D M gm capm) :
    Calls Try.prog 66 #[.func (.func gf) #[] caps, .func (.func gm) #[] capm] w fun e w' => ∃ cc, e = .returned (.func (.func 96) #[] cc) ∧ Below w.heap.size w w' ∧ PrOk w' D (prO P M) 96 cc := by
  obtain ⟨w1, hw1, hb1, hz1, F0⟩ := box_fn w (.func (.func gf) #[] caps) 77 rfl rfl
  obtain ⟨w2, hw2, hb2, hz2, G0⟩ := box_fn w1 (.func (.func gm) #[] capm) 81 rfl rfl
  have HB := Lib.hid (bT hb1 hb2)
  have HF : Hid (∀ V, Below w2.heap.size w2 V → V.cell? ⟨w.heap.size, 0, none⟩ = some (.func (.func gf) #[] caps)) := fun V (hV : Below w2.heap.size w2 V) => F0 V (bT hb2 hV); have HG := Lib.hid G0
  have HP := Lib.hid hP; have HM := Lib.hid hM
  have hz := hz1
  clear hb1 hb2 hP hM hz1 hz2 F0 G0
  go_enter Try.func66, Try.ntmps66
  go_wp2
  go_ret
  refine ⟨_, rfl, HB.out, enters_of Try.func96 (by kernel_rfl) rfl, fun V hV s h hs hh => ?_⟩
  refine only1_run w D P M gf gm w.heap.size _ caps capm HP.out HM.out V (bT HB.out hV) ?_ (HF.out V hV) s h hs hh
  first | exact HG.out V hV | (have := HG.out V hV; rw [hz] at this; exact this)
theorem cells4 (w : World) (v0 v1 v2 v3 : Value) (t : TypeId) : (w.alloc (Obj.cells #[v0, v1, v2, v3] t)).cell? ⟨w.heap.size, 0, none⟩ = some v0 ∧ (w.alloc (Obj.cells #[v0, v1, v2, v3] t)).cell? ⟨w.heap.size, 1, none⟩ = some v1 ∧ (w.alloc (Obj.cells #[v0, v1, v2, v3] t)).cell? ⟨w.heap.size, 2, none⟩ = some v2 ∧ (w.alloc (Obj.cells #[v0, v1, v2, v3] t)).cell? ⟨w.heap.size, 3, none⟩ = some v3 := ⟨by go_simp, by go_simp, by go_simp, by go_simp⟩
set_option maxRecDepth 100000 in
set_option maxHeartbeats 2000000 in
theorem newFinder_any (D : Ro) (P : Pr) (p q : Option Addr) (c d gf : Nat) (caps : Array Value) (w : World) :
    Calls Try.prog 63 #[.agg #[.slice p D.n c, .slice q D.m d], .func (.func gf) #[] caps] w fun e w' => ∃ fb mb, e = .returned (.pointer (some ⟨fb, 0, none⟩)) ∧ Below w.heap.size w w' ∧ Fin w D P p q c d (.func (.func gf) #[] caps) fb mb w' := by
  obtain ⟨w1, x, hw1, hb1, hz1, F0, F1, _⟩ := box_ro w p q D.n D.m c d
  obtain ⟨w2, hw2⟩ : ∃ w2, x.v.alloc (.map #[] 0) = w2 := ⟨_, rfl⟩
  have b2 : Below x.v.heap.size x.v w2 := by rw [← hw2]; exact bA (Below.refl _ _) _
  have m2 : MapOk D P w2 x.v.heap.size := by rw [← hw2]; exact MapOk.new D P x.v
  obtain ⟨w3, hw3⟩ : ∃ w3, w2.alloc (Obj.cells #[.slice p D.n c, .slice q D.m d, .func (.func gf) #[] caps, .map (some x.v.heap.size)] 104) = w3 := ⟨_, rfl⟩
  have b3 : Below w2.heap.size w2 w3 := by rw [← hw3]; exact bA (Below.refl _ _) _
  obtain ⟨c0, c1, c2, c3⟩ := cells4 w2 (.slice p D.n c) (.slice q D.m d) (.func (.func gf) #[] caps) (.map (some x.v.heap.size)) 104
  rw [hw3] at c0 c1 c2 c3
  have hz2 : w2.heap.size = x.v.heap.size + 1 := by rw [← hw2]; simp
  have hz3 : w3.heap.size = w2.heap.size + 1 := by rw [← hw3]; simp
  have hB : Below w.heap.size w w3 := bT (bT hb1 x.b) (bT b2 b3)
  have hx : w.heap.size < x.v.heap.size := by have := x.b.size; omega
  have HFI : Hid (Fin w D P p q c d (.func (.func gf) #[] caps) w2.heap.size x.v.heap.size w3) :=
    ⟨hB, c0, c1, c2, c3, m2.blk (b3.block _ m2.lt), by omega, by omega, by omega, by omega⟩
  have hmm := @run_makeMap Try.prog
  clear b2 m2 b3 c0 c1 c2 c3 hB hx hb1 hz1 hz3
  go_enter Try.func63, Try.ntmps63
  go_wp2
  go_ret
  have := HFI.out
  refine ⟨w2.heap.size, x.v.heap.size, ?_, this.b, this⟩
  first | rfl | (rw [hz2]; rfl)
end Go.Proofs.Ytegkgfiaegpihaa
