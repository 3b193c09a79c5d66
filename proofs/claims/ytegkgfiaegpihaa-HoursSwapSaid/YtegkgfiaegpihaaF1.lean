/- Rosters of hours: who finds: one hour of a street. -/
import Derived.Test.YtegkgfiaegpihaaC6

import Derived.Test.YtegkgfiaegpihaaK3

import Derived.Maps.AppendAt

set_option linter.unusedSimpArgs false

set_option linter.unusedVariables false

namespace Go.Proofs.Ytegkgfiaegpihaa

open Go.RowKit

/-- only block mb changed of what there was -/
abbrev Gr (mb : Nat) (W W' : World) : Prop := W.grownBy W' (some mb)
theorem Gr.bel {mb : Nat} {W W' : World} (h : Below W.heap.size W W') : Gr mb W W' := ⟨h.os, h.tape, h.output, h.size, fun k hk _ => h.block k hk⟩
theorem Gr.set {mb : Nat} {W A : World} (h : Gr mb W A) {p : Addr} (hp : W.heap.size ≤ p.block) (u : Value) : Gr mb W (A.setCell p u) :=
  ⟨(show (A.setCell p u).os = A.os by first | rfl | simp).trans h.os, (show (A.setCell p u).tape = A.tape by first | rfl | simp).trans h.tape, (show (A.setCell p u).output = A.output by first | rfl | simp).trans h.output, by simpa using h.size, fun k hk hne => (setCell_block (by omega)).trans (h.block k hk hne)⟩
theorem Gr.all {mb : Nat} {W A : World} (h : Gr mb W A) (o : Obj) : Gr mb W (A.alloc o) := h.trans (World.grownBy_alloc _ _ _)
/-- who finds: the finder's block fb, the map's block mb, the world ahead of both w0 -/
structure Fin (w0 : World) (D : Ro) (P : Pr) (p q : Option Addr) (c d : Nat) (pv : Value) (fb mb : Nat) (W : World) : Prop where
  b : Below w0.heap.size w0 W
  c0 : W.cell? ⟨fb, 0, none⟩ = some (.slice p D.n c)
  c1 : W.cell? ⟨fb, 1, none⟩ = some (.slice q D.m d)
  c2 : W.cell? ⟨fb, 2, none⟩ = some pv
  c3 : W.cell? ⟨fb, 3, none⟩ = some (.map (some mb))
  m : MapOk D P W mb
  lf : w0.heap.size ≤ fb
  ltf : fb < W.heap.size
  lm : w0.heap.size ≤ mb
  ne : fb ≠ mb
theorem Fin.gr {w0 : World} {D : Ro} {P : Pr} {p q : Option Addr} {c d : Nat} {pv : Value} {fb mb : Nat} {W W' : World} (h : Fin w0 D P p q c d pv fb mb W) (hg : Gr mb W W') (hm : MapOk D P W' mb) : Fin w0 D P p q c d pv fb mb W' := by
  have hb : W'.heap[fb]? = W.heap[fb]? := hg.block fb h.ltf (by simp [h.ne])
  have hB : Below w0.heap.size w0 W' := h.b.grown hg h.b.size fun k hk => by cases hk; exact h.lm
  exact ⟨hB, (World.cell?_of_block (a := ⟨fb, 0, none⟩) hb).trans h.c0, (World.cell?_of_block (a := ⟨fb, 1, none⟩) hb).trans h.c1, (World.cell?_of_block (a := ⟨fb, 2, none⟩) hb).trans h.c2, (World.cell?_of_block (a := ⟨fb, 3, none⟩) hb).trans h.c3, hm, h.lf, Nat.lt_of_lt_of_le h.ltf hg.size, h.lm, h.ne⟩
theorem Fin.bel {w0 : World} {D : Ro} {P : Pr} {p q : Option Addr} {c d : Nat} {pv : Value} {fb mb : Nat} {W W' : World} (h : Fin w0 D P p q c d pv fb mb W) (hb : Below W.heap.size W W') : Fin w0 D P p q c d pv fb mb W' :=
  h.gr (Gr.bel hb) (h.m.blk (hb.block mb h.m.lt))
theorem Fin.set {w0 : World} {D : Ro} {P : Pr} {p q : Option Addr} {c d : Nat} {pv : Value} {fb mb : Nat} {W : World} (h : Fin w0 D P p q c d pv fb mb W) {a : Addr} (hf : fb < a.block) (hm : mb < a.block) (u : Value) : Fin w0 D P p q c d pv fb mb (W.setCell a u) := by
  have e : ∀ k, k ≠ a.block → (W.setCell a u).heap[k]? = W.heap[k]? := fun k hk => setCell_block hk
  have hb := e fb (by omega)
  exact ⟨h.b.setCell (by have := h.lf; omega) u, (World.cell?_of_block (a := ⟨fb, 0, none⟩) hb).trans h.c0, (World.cell?_of_block (a := ⟨fb, 1, none⟩) hb).trans h.c1, (World.cell?_of_block (a := ⟨fb, 2, none⟩) hb).trans h.c2, (World.cell?_of_block (a := ⟨fb, 3, none⟩) hb).trans h.c3, h.m.blk (e mb (by omega)), h.lf, by simpa using h.ltf, h.lm, h.ne⟩
/-- the price: what the function that is called says, wherever it is called -/
structure PrOk (w0 : World) (D : Ro) (P : Pr) (gf : Nat) (caps : Array Value) : Prop where
  en : ∀ (args : Array Value) (W : World), (callFunc gf args).run Try.prog W = .ok (.enter gf args) W
  run : ∀ V, Below w0.heap.size w0 V → ∀ s h : Nat, s < D.m → h < D.n → Calls Try.prog gf (#[.int .i64 (s : Int), .int .i64 (h : Int)] ++ caps) V fun e V' => e = .returned (.tuple #[.int .i64 ((P s h).getD 0), .bool (P s h).isSome]) ∧ Below V.heap.size V V'
/-- what choose does for j streets from number s on -/
def ChooseOk (w0 : World) (D : Ro) (P : Pr) (p q : Option Addr) (c d gf : Nat) (caps : Array Value) (fb mb j s : Nat) : Prop :=
  ∀ (V : World) (L : Nat → Int), Fin w0 D P p q c d (.func (.func gf) #[] caps) fb mb V → Rm L → Str D s L →
    Calls Try.prog 95 #[.pointer (some ⟨fb, 0, none⟩), .int .i64 (s : Int), arr8 L] V fun e V' => e = .returned (chE (chV D P j s L)) ∧ Gr mb V V' ∧ MapOk D P V' mb
set_option maxRecDepth 100000 in
set_option maxHeartbeats 8000000 in
theorem with_any (w0 : World) (D : Ro) (P : Pr) (p q : Option Addr) (c d gf : Nat) (caps : Array Value) (fb mb j s : Nat) (hD : OkP D) (hB : PrB D P) (hP : PrOk w0 D P gf caps) (hs : s + j + 1 = D.m) (HC : ChooseOk w0 D P p q c d gf caps fb mb j (s + 1))
    (W : World) (L : Nat → Int) (h : Nat) (hf : Fin w0 D P p q c d (.func (.func gf) #[] caps) fb mb W) (hL : Rm L) (hS : Str D s L) (hh : h < D.n) :
    Calls Try.prog 108 #[.pointer (some ⟨fb, 0, none⟩), .int .i64 (s : Int), .int .i64 (h : Int), arr8 L] W fun e W' => e = .returned (chE (wiV (chV D P j (s + 1)) P s h L)) ∧ Gr mb W W' ∧ MapOk D P W' mb := by
  obtain ⟨w1, hw1⟩ : ∃ w1, W.alloc (Obj.cells #[.int .i64 (L 0), .int .i64 (L 1), .int .i64 (L 2), .int .i64 (L 3), .int .i64 (L 4), .int .i64 (L 5), .int .i64 (L 6), .int .i64 (L 7)] 106) = w1 := ⟨_, rfl⟩
  have a1 : ArAt w1 W.heap.size L := by rw [← hw1]; exact ArAt.new W L
  have b1 : Below W.heap.size W w1 := by rw [← hw1]; exact bA (Below.refl _ _) _
  have z1 : w1.heap.size = W.heap.size + 1 := by rw [← hw1]; simp
  obtain ⟨rb, hrb⟩ : ∃ rb, w1.heap.size = rb := ⟨_, rfl⟩
  obtain ⟨w2, hw2⟩ : ∃ w2, w1.alloc (Obj.cells #[.int .i64 0, .int .i64 0, .bool false] 109) = w2 := ⟨_, rfl⟩
  have a2 : ChAt w2 rb ⟨0, 0, false⟩ := by rw [← hw2, ← hrb]; exact ChAt.new w1 ⟨0, 0, false⟩
  have b2 : Below w1.heap.size w1 w2 := by rw [← hw2]; exact bA (Below.refl _ _) _
  have b12 := bT b1 b2
  have f2 := hf.bel b12
  have HF2 := Lib.hid f2; have HA2 := Lib.hid a2; have HA1 := Lib.hid (a1.blk (b2.block _ a1.lt)); have HB12 := Lib.hid b12
  have hc8 : h < 8 := by have := hD.n; omega
  have HZ : Hid (W.heap.size < rb ∧ fb < W.heap.size ∧ mb < W.heap.size) := ⟨by omega, hf.ltf, hf.m.lt⟩
  have k2 := f2.c2
  have HPR := Lib.hid (hP.run w2 f2.b s h (by omega) hh)
  have EG := hP.en
  have HD := Lib.hid hD; have HL := Lib.hid hL; have HS := Lib.hid hS; have HP := Lib.hid hP; have HCC := Lib.hid HC; have HBB := Lib.hid hB; have HSJ := Lib.hid hs
  have hi8 : (h : Int) < 8 := by omega
  clear a1 b1 z1 a2 b2 b12 f2 hf hD hL hS hP HC hB hs
  simp only [arr8]
  cases hPs : P s h with
  | none =>
    rw [hPs] at HPR
    simp only [Option.getD_none, Option.isSome_none] at HPR
    have HV : Hid (wiV (chV D P j (s + 1)) P s h L = ⟨0, 0, true⟩) := by unfold wiV; rw [hPs]; rfl
    clear hPs
    go_enter Try.func108, Try.ntmps108
    try rw [hrb]
    go_wp2_with fail
    refine (HPR.out).mono ?_
    rintro e w3 ⟨rfl, hb3⟩
    have HF3 := Lib.hid (HF2.out.bel hb3); have HA3 := Lib.hid (HA2.out.blk (hb3.block _ HA2.out.lt)); have HR3 := Lib.hid (HA1.out.blk (hb3.block _ HA1.out.lt)); have HB3 := Lib.hid (bT HB12.out hb3)
    clear hb3 k2
    have g0 := HA3.out.c0; have g1 := HA3.out.c1; have g2 := HA3.out.c2; have gf0 := HA3.out.fz 0; have gf1 := HA3.out.fz 1; have gf2 := HA3.out.fz 2
    have l0 := HR3.out.c h hc8
    obtain ⟨w9, hw9⟩ : ∃ w9, ((w3.setCell ⟨rb, 0, none⟩ (.int .i64 0)).setCell ⟨rb, 1, none⟩ (.int .i64 0)).setCell ⟨rb, 2, none⟩ (.bool true) = w9 := ⟨_, rfl⟩
    have h9 : ChAt w9 rb ⟨0, 0, true⟩ := by rw [← hw9]; exact HA3.out.set (d := ⟨0, 0, true⟩)
    have HG9 : Hid (Gr mb W w9) := by rw [← hw9]; exact (((Gr.bel HB3.out).set (by have := HZ.out; simp; omega) _).set (by have := HZ.out; simp; omega) _).set (by have := HZ.out; simp; omega) _
    have HM9 : Hid (MapOk D P w9 mb) := by rw [← hw9]; exact (((HF3.out.set (a := ⟨rb, 0, none⟩) (by have := HZ.out; simp; omega) (by have := HZ.out; simp; omega) _).set (a := ⟨rb, 1, none⟩) (by have := HZ.out; simp; omega) (by have := HZ.out; simp; omega) _).set (a := ⟨rb, 2, none⟩) (by have := HZ.out; simp; omega) (by have := HZ.out; simp; omega) _).m
    obtain ⟨_, q0, q1, q2, _⟩ := h9
    go_wp2
    try rw [hw9]
    refine bodyPost_ret (v := .agg #[.int .i64 0, .int .i64 0, .bool true]) (by simp [results, Try.f108, go_sem, q0, q1, q2]) rfl ⟨?_, HG9.out, HM9.out⟩
    rw [HV.out]
    rfl
  | some cst =>
    rw [hPs] at HPR
    simp only [Option.getD_some, Option.isSome_some] at HPR
    by_cases hL0 : L h = 0
    · have HV : Hid (wiV (chV D P j (s + 1)) P s h L = ⟨0, 0, true⟩) := by unfold wiV; rw [hPs]; simp only; rw [if_pos hL0]; rfl
      have jL : (L h == 0) = true := by simpa using hL0
      clear hPs hL0
      go_enter Try.func108, Try.ntmps108
      try rw [hrb]
      go_wp2_with fail
      refine (HPR.out).mono ?_
      rintro e w3 ⟨rfl, hb3⟩
      have HF3 := Lib.hid (HF2.out.bel hb3); have HA3 := Lib.hid (HA2.out.blk (hb3.block _ HA2.out.lt)); have HR3 := Lib.hid (HA1.out.blk (hb3.block _ HA1.out.lt)); have HB3 := Lib.hid (bT HB12.out hb3)
      clear hb3 k2
      have g0 := HA3.out.c0; have g1 := HA3.out.c1; have g2 := HA3.out.c2; have gf0 := HA3.out.fz 0; have gf1 := HA3.out.fz 1; have gf2 := HA3.out.fz 2
      have l0 := HR3.out.c h hc8
      obtain ⟨w9, hw9⟩ : ∃ w9, ((w3.setCell ⟨rb, 0, none⟩ (.int .i64 0)).setCell ⟨rb, 1, none⟩ (.int .i64 0)).setCell ⟨rb, 2, none⟩ (.bool true) = w9 := ⟨_, rfl⟩
      have h9 : ChAt w9 rb ⟨0, 0, true⟩ := by rw [← hw9]; exact HA3.out.set (d := ⟨0, 0, true⟩)
      have HG9 : Hid (Gr mb W w9) := by rw [← hw9]; exact (((Gr.bel HB3.out).set (by have := HZ.out; simp; omega) _).set (by have := HZ.out; simp; omega) _).set (by have := HZ.out; simp; omega) _
      have HM9 : Hid (MapOk D P w9 mb) := by rw [← hw9]; exact (((HF3.out.set (a := ⟨rb, 0, none⟩) (by have := HZ.out; simp; omega) (by have := HZ.out; simp; omega) _).set (a := ⟨rb, 1, none⟩) (by have := HZ.out; simp; omega) (by have := HZ.out; simp; omega) _).set (a := ⟨rb, 2, none⟩) (by have := HZ.out; simp; omega) (by have := HZ.out; simp; omega) _).m
      obtain ⟨_, q0, q1, q2, _⟩ := h9
      go_wp2
      try rw [hw9]
      refine bodyPost_ret (v := .agg #[.int .i64 0, .int .i64 0, .bool true]) (by simp [results, Try.f108, go_sem, q0, q1, q2]) rfl ⟨?_, HG9.out, HM9.out⟩
      rw [HV.out]
      rfl
    · skip
      go_enter Try.func108, Try.ntmps108
      try rw [hrb]
      go_wp2_with fail
      refine (HPR.out).mono ?_
      rintro e w3 ⟨rfl, hb3⟩
      have HF3 := Lib.hid (HF2.out.bel hb3); have HA3 := Lib.hid (HA2.out.blk (hb3.block _ HA2.out.lt)); have HR3 := Lib.hid (HA1.out.blk (hb3.block _ HA1.out.lt)); have HB3 := Lib.hid (bT HB12.out hb3)
      clear hb3 k2
      have g0 := HA3.out.c0; have g1 := HA3.out.c1; have g2 := HA3.out.c2; have gf0 := HA3.out.fz 0; have gf1 := HA3.out.fz 1; have gf2 := HA3.out.fz 2
      have l0 := HR3.out.c h hc8
      have HL4 := Lib.hid (HL.out.dec hc8 hL0); have HS4 := Lib.hid (HS.out.dec hc8)
      have hr := HL.out.b h
      have ew : IntKind.i64.wrap (L h - 1) = L h - 1 := IntWalk.i64_in _ (by omega)
      have jL : (L h == 0) = false := by simpa using hL0
      have lfz := HR3.out.fz h
      obtain ⟨w4, hw4⟩ : ∃ w4, w3.setCell ⟨W.heap.size, h, none⟩ (.int .i64 (L h - 1)) = w4 := ⟨_, rfl⟩
      have HR4 : Hid (ArAt w4 W.heap.size (dec L h)) := by rw [← hw4]; exact HR3.out.set hc8 _ rfl
      have HA4 : Hid (ChAt w4 rb ⟨0, 0, false⟩) := by rw [← hw4]; exact HA3.out.blk (setCell_block (by have := HZ.out; simp; omega))
      have HF4 : Hid (Fin w0 D P p q c d (.func (.func gf) #[] caps) fb mb w4) := by rw [← hw4]; exact HF3.out.set (by have := HZ.out; simp; omega) (by have := HZ.out; simp; omega) _
      have HG4 : Hid (Gr mb W w4) := by rw [← hw4]; exact (Gr.bel HB3.out).set (by simp) _
      have hx : chV D P j (s + 1) (dec L h) = chV D P j (s + 1) (dec L h) := rfl
      obtain ⟨b, hb⟩ : ∃ b, chV D P j (s + 1) (dec L h) = b := ⟨_, rfl⟩
      have hbd := chV_bd HD.out HBB.out j (s + 1) (dec L h) (by have := HSJ.out; omega)
      have hpb := HBB.out s h (by have := HSJ.out; omega) hh cst hPs
      have HCC2 : Hid (∀ V, Fin w0 D P p q c d (.func (.func gf) #[] caps) fb mb V → Calls Try.prog 95 #[.pointer (some ⟨fb, 0, none⟩), .int .i64 ((s : Int) + 1), .agg #[.int .i64 (dec L h 0), .int .i64 (dec L h 1), .int .i64 (dec L h 2), .int .i64 (dec L h 3), .int .i64 (dec L h 4), .int .i64 (dec L h 5), .int .i64 (dec L h 6), .int .i64 (dec L h 7)]] V fun e V' => e = .returned (.agg #[.int .i64 b.h, .int .i64 b.c, .bool b.no]) ∧ Gr mb V V' ∧ MapOk D P V' mb) := fun V hV => by
        have := HCC.out V (dec L h) hV HL4.out HS4.out
        rw [hb] at this
        exact this
      have HV : Hid (wiV (chV D P j (s + 1)) P s h L = ⟨(h : Int), cst + b.c, b.no⟩) := by
        unfold wiV
        rw [hPs, hb]
        simp only
        rw [if_neg hL0]
        rfl
      rw [hb] at hbd
      have hj6 : j ≤ 6 := by have := HD.out.m; have := HSJ.out; omega
      have ec : IntKind.i64.wrap (cst + b.c) = cst + b.c := IntWalk.i64_in _ (by omega)
      have m0 := HR4.out.c 0 (by omega); have m1 := HR4.out.c 1 (by omega); have m2 := HR4.out.c 2 (by omega); have m3 := HR4.out.c 3 (by omega)
      have m4 := HR4.out.c 4 (by omega); have m5 := HR4.out.c 5 (by omega); have m6 := HR4.out.c 6 (by omega); have m7 := HR4.out.c 7 (by omega)
      have hs8 : (s : Int) ≤ 8 := by have := HD.out.m; have := HSJ.out; omega
      clear hx hb hbd hpb hPs hL0 hr hj6
      go_wp2_with fail
      try rw [hw4]
      clear hw4 g0 g1 g2 gf0 gf1 gf2 l0 lfz
      go_wp2_with fail
      refine (HCC2.out _ HF4.out).mono ?_
      rintro e w5 ⟨rfl, hg5, hm5⟩
      have HF5 := Lib.hid (HF4.out.gr hg5 hm5); have HA5 := Lib.hid (HA4.out.blk (hg5.block _ HA4.out.lt (by have := HZ.out; simp; omega))); have HG5 := Lib.hid (HG4.out.trans hg5)
      have hz5 := hg5.size
      have HZ5 : Hid (rb < w5.heap.size) := Nat.lt_of_lt_of_le HA4.out.lt hg5.size
      clear hg5 hm5 m0 m1 m2 m3 m4 m5 m6 m7 hz5
      obtain ⟨w6, hw6⟩ : ∃ w6, w5.alloc (Obj.cells #[.int .i64 b.h, .int .i64 b.c, .bool b.no] 109) = w6 := ⟨_, rfl⟩
      have h6 : ChAt w6 w5.heap.size b := by rw [← hw6]; exact ChAt.new w5 b
      have hb6 : Below w5.heap.size w5 w6 := by rw [← hw6]; exact bA (Below.refl _ _) _
      have HF6 := Lib.hid (HF5.out.bel hb6); have HA6 := Lib.hid (HA5.out.blk (hb6.block _ HA5.out.lt)); have HG6 := Lib.hid (HG5.out.trans (Gr.bel hb6))
      have c0 := h6.c0; have c1 := h6.c1; have c2 := h6.c2
      have g0 := HA6.out.c0; have g1 := HA6.out.c1; have g2 := HA6.out.c2; have gf0 := HA6.out.fz 0; have gf1 := HA6.out.fz 1; have gf2 := HA6.out.fz 2
      clear h6 hb6
      obtain ⟨w9, hw9⟩ : ∃ w9, ((w6.setCell ⟨rb, 0, none⟩ (.int .i64 (h : Int))).setCell ⟨rb, 1, none⟩ (.int .i64 (cst + b.c))).setCell ⟨rb, 2, none⟩ (.bool b.no) = w9 := ⟨_, rfl⟩
      have h9 : ChAt w9 rb ⟨h, cst + b.c, b.no⟩ := by rw [← hw9]; exact HA6.out.set (d := ⟨h, cst + b.c, b.no⟩)
      have HG9 : Hid (Gr mb W w9) := by rw [← hw9]; exact (((show Gr mb W w6 from HG6.out).set (by have := HZ.out; simp; omega) _).set (by have := HZ.out; simp; omega) _).set (by have := HZ.out; simp; omega) _
      have HM9 : Hid (MapOk D P w9 mb) := by rw [← hw9]; exact (((HF6.out.set (a := ⟨rb, 0, none⟩) (by have := HZ.out; simp; omega) (by have := HZ.out; simp; omega) _).set (a := ⟨rb, 1, none⟩) (by have := HZ.out; simp; omega) (by have := HZ.out; simp; omega) _).set (a := ⟨rb, 2, none⟩) (by have := HZ.out; simp; omega) (by have := HZ.out; simp; omega) _).m
      obtain ⟨_, q0, q1, q2, _⟩ := h9
      go_wp2
      try rw [hw9]
      refine bodyPost_ret (v := .agg #[.int .i64 (h : Int), .int .i64 (cst + b.c), .bool b.no]) (by simp [results, Try.f108, go_sem, q0, q1, q2]) rfl ⟨?_, HG9.out, HM9.out⟩
      rw [HV.out]
      rfl
end Go.Proofs.Ytegkgfiaegpihaa
