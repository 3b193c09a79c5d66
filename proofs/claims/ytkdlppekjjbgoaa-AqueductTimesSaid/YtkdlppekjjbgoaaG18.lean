/- Lines of an aqueduct: a copy at work, whose points and odds are stored one after the other. -/
import Derived.Test.YtkdlppekjjbgoaaG13

set_option linter.unusedSimpArgs false

set_option linter.unusedVariables false

namespace Go.Proofs.Ytkdlppekjjbgoaa

open Go.RowKit

/-- the copy E of a line D, in a box of its own -/
structure Work (wb wr : World) (OB g go g2 o2 cc dd : Nat) (D E : Duct) : Prop where
  bel : Below wb.heap.size wb wr
  box : LineBox wr OB (some ⟨g, go, none⟩) D.n cc (some ⟨g2, o2, none⟩) D.m dd
  duct : DuctIn wr wr.heap.size E (some ⟨g, go, none⟩) (some ⟨g2, o2, none⟩)
  fz : ∀ i, wr.frozen? ⟨g, i, none⟩ = false
  fz2 : ∀ i, wr.frozen? ⟨g2, i, none⟩ = false
  lg : wb.heap.size ≤ g ∧ g < wr.heap.size
  lg2 : wb.heap.size ≤ g2 ∧ g2 < wr.heap.size
  ne : g2 ≠ g ∧ OB ≠ g ∧ OB ≠ g2
theorem Work.ext {wb wr w' : World} {OB g go g2 o2 cc dd : Nat} {D E : Duct} (h : Work wb wr OB g go g2 o2 cc dd D E) (hb : Below wr.heap.size wr w') : Work wb w' OB g go g2 o2 cc dd D E :=
  ⟨bT h.bel hb, h.box.bel hb, h.duct.bel hb, fun i => (hb.frozen (p := ⟨g, i, none⟩) h.lg.2).trans (h.fz i), fun i => (hb.frozen (p := ⟨g2, i, none⟩) h.lg2.2).trans (h.fz2 i), ⟨h.lg.1, Nat.lt_of_lt_of_le h.lg.2 hb.size⟩, ⟨h.lg2.1, Nat.lt_of_lt_of_le h.lg2.2 hb.size⟩, h.ne⟩
theorem Work.congr {wb wr : World} {OB g go g2 o2 cc dd : Nat} {D E F : Duct} (h : Work wb wr OB g go g2 o2 cc dd D E) (hn : F.n = E.n) (hm : F.m = E.m) (hp : ∀ k, k < E.n → F.lo k = E.lo k ∧ F.hi k = E.hi k ∧ F.co k = E.co k) (ho : ∀ k, k < E.m → F.od k = E.od k) : Work wb wr OB g go g2 o2 cc dd D F :=
  ⟨h.bel, h.box, h.duct.congr hn hm hp ho, h.fz, h.fz2, h.lg, h.lg2, h.ne⟩
theorem Work.pt {wb wr : World} {OB g go g2 o2 cc dd k : Nat} {D E : Duct} {a b v : Int} (h : Work wb wr OB g go g2 o2 cc dd D E) (hk : k < E.n) :
    Work wb (((wr.setCell ⟨g, go + k * 3, none⟩ (.int .i64 a)).setCell ⟨g, go + k * 3 + 1, none⟩ (.int .i64 b)).setCell ⟨g, go + k * 3 + 2, none⟩ (.int .i64 v)) OB g go g2 o2 cc dd D (setPt E k a b v) :=
  ⟨bS (bS (bS h.bel h.lg.1 _) h.lg.1 _) h.lg.1 _, h.box.set3 h.ne.2.1, by simpa using h.duct.setPt (a := a) (b := b) (v := v) hk (fun _ _ _ e => by cases e; exact h.ne.1), fun i => by simpa using h.fz i, fun i => by simpa using h.fz2 i, ⟨h.lg.1, by simpa using h.lg.2⟩, ⟨h.lg2.1, by simpa using h.lg2.2⟩, h.ne⟩
theorem Work.co {wb wr : World} {OB g go g2 o2 cc dd k : Nat} {D E : Duct} {v : Int} (h : Work wb wr OB g go g2 o2 cc dd D E) (hk : k < E.n) :
    Work wb (wr.setCell ⟨g, go + k * 3 + 2, none⟩ (.int .i64 v)) OB g go g2 o2 cc dd D (setCo E k v) :=
  ⟨bS h.bel h.lg.1 _, h.box.set1 h.ne.2.1, by simpa using h.duct.setCo (v := v) hk (fun _ _ _ e => by cases e; exact h.ne.1), fun i => by simpa using h.fz i, fun i => by simpa using h.fz2 i, ⟨h.lg.1, by simpa using h.lg.2⟩, ⟨h.lg2.1, by simpa using h.lg2.2⟩, h.ne⟩
theorem Work.od {wb wr : World} {OB g go g2 o2 cc dd k : Nat} {D E : Duct} {v : Int} (h : Work wb wr OB g go g2 o2 cc dd D E) (hk : k < E.m) :
    Work wb (wr.setCell ⟨g2, o2 + k, none⟩ (.int .i64 v)) OB g go g2 o2 cc dd D (setOd E k v) :=
  ⟨bS h.bel h.lg2.1 _, h.box.set1 h.ne.2.2, by simpa using h.duct.setOd (v := v) hk (fun _ _ _ e => by cases e; exact Ne.symm h.ne.1), fun i => by simpa using h.fz i, fun i => by simpa using h.fz2 i, ⟨h.lg.1, by simpa using h.lg.2⟩, ⟨h.lg2.1, by simpa using h.lg2.2⟩, h.ne⟩
theorem work_new {wb w' wo : World} {y : Ext wb} {c' d' g go : Nat} {D : Duct} {q' : Option Addr} (hn0 : 0 < D.n) (hm0 : 0 < D.m) (hcp : CopyIn y.v w' D (some ⟨g, go, none⟩) q') (hoq : OwnQ y.v w' D q') (hne : 0 < D.m → ∀ g2 o2, q' = some ⟨g2, o2, none⟩ → g2 ≠ g) (hfz : ∀ i, w'.frozen? ⟨g, i, none⟩ = false) (hg : y.v.heap.size ≤ g)
    (hb : Below w'.heap.size w' wo) (hl : LineBox wo w'.heap.size (some ⟨g, go, none⟩) D.n c' q' D.m d') : ∃ g2 o2, q' = some ⟨g2, o2, none⟩ ∧ Work wb wo w'.heap.size g go g2 o2 c' d' D D := by
  obtain ⟨g2, o2, rfl, h2, h3⟩ := hoq hm0
  have l1 := hcp.here.pb hn0
  have l2 := hcp.here.qb hm0
  exact ⟨g2, o2, rfl, bT (bT y.b hcp.below) hb, hl, hcp.here.bel hb, fun i => (hb.frozen (p := ⟨g, i, none⟩) l1).trans (hfz i), fun i => (hb.frozen (p := ⟨g2, i, none⟩) l2).trans (h3 i),
    ⟨Nat.le_trans y.b.size hg, Nat.lt_of_lt_of_le l1 hb.size⟩, ⟨Nat.le_trans y.b.size h2, Nat.lt_of_lt_of_le l2 hb.size⟩, hne hm0 _ _ rfl, by omega, by omega⟩
/-- the points below k are those of the line turned around -/
def rvP (D : Duct) (k : Nat) : Duct := { D with lo := fun i => if i < k then D.lo (D.m - i) else D.lo i, hi := fun i => if i < k then D.hi (D.m - i) else D.hi i, co := fun i => if i < k then D.co (D.m - i) else D.co i }
def rvO (D : Duct) (k : Nat) : Duct := { revD D with od := fun i => if i < k then D.od (D.m - 1 - i) else D.od i }
/-- the costs below k are so many times as great -/
def tmP (D : Duct) (a : Int) (k : Nat) : Duct := { D with co := fun i => if i < k then D.co i * a else D.co i }
def tmO (D : Duct) (a b : Int) (k : Nat) : Duct := { D with co := fun i => D.co i * a, od := fun i => if i < k then D.od i * b else D.od i }
theorem if_step {α : Type} {k i : Nat} {x y : Nat → α} : (if i < k + 1 then x i else y i) = if i = k then x k else (if i < k then x i else y i) := by
  by_cases e : i = k
  · subst e; rw [if_pos rfl, if_pos (by omega)]
  · rw [if_neg e]
    by_cases e2 : i < k
    · rw [if_pos e2, if_pos (by omega)]
    · rw [if_neg e2, if_neg (by omega)]
section

variable {wb wr : World} {OB g go g2 o2 cc dd : Nat} {D : Duct} {a b : Int}

theorem rvP_zero (h : Work wb wr OB g go g2 o2 cc dd D D) : Work wb wr OB g go g2 o2 cc dd D (rvP D 0) := h.congr rfl rfl (fun i _ => ⟨by simp [rvP], by simp [rvP], by simp [rvP]⟩) (fun _ _ => rfl)
theorem rvP_step {k : Nat} (h : Work wb wr OB g go g2 o2 cc dd D (setPt (rvP D k) k (D.lo (D.m - k)) (D.hi (D.m - k)) (D.co (D.m - k)))) : Work wb wr OB g go g2 o2 cc dd D (rvP D (k + 1)) :=
  h.congr rfl rfl (fun i _ => ⟨if_step (x := fun i => D.lo (D.m - i)) (y := D.lo), if_step (x := fun i => D.hi (D.m - i)) (y := D.hi), if_step (x := fun i => D.co (D.m - i)) (y := D.co)⟩) (fun _ _ => rfl)
theorem rvO_zero (h : Work wb wr OB g go g2 o2 cc dd D (rvP D D.n)) : Work wb wr OB g go g2 o2 cc dd D (rvO D 0) := h.congr rfl rfl (fun i hi => by have hi' : i < D.n := hi; exact ⟨by simp [rvO, rvP, revD, hi'], by simp [rvO, rvP, revD, hi'], by simp [rvO, rvP, revD, hi']⟩) (fun i _ => by simp [rvO, rvP])
theorem rvO_step {k : Nat} (h : Work wb wr OB g go g2 o2 cc dd D (setOd (rvO D k) k (D.od (D.m - 1 - k)))) : Work wb wr OB g go g2 o2 cc dd D (rvO D (k + 1)) :=
  h.congr rfl rfl (fun i _ => ⟨rfl, rfl, rfl⟩) (fun i _ => if_step (x := fun i => D.od (D.m - 1 - i)) (y := D.od))
theorem rvO_end (h : Work wb wr OB g go g2 o2 cc dd D (rvO D D.m)) : Work wb wr OB g go g2 o2 cc dd D (revD D) := h.congr rfl rfl (fun i _ => ⟨rfl, rfl, rfl⟩) (fun i hi => by have hi' : i < D.m := hi; simp [rvO, revD, hi'])
theorem tmP_zero (h : Work wb wr OB g go g2 o2 cc dd D D) : Work wb wr OB g go g2 o2 cc dd D (tmP D a 0) := h.congr rfl rfl (fun i _ => ⟨rfl, rfl, by simp [tmP]⟩) (fun _ _ => rfl)
theorem tmP_step {k : Nat} (h : Work wb wr OB g go g2 o2 cc dd D (setCo (tmP D a k) k (D.co k * a))) : Work wb wr OB g go g2 o2 cc dd D (tmP D a (k + 1)) :=
  h.congr rfl rfl (fun i _ => ⟨rfl, rfl, if_step (x := fun i => D.co i * a) (y := D.co)⟩) (fun _ _ => rfl)
theorem tmO_zero (h : Work wb wr OB g go g2 o2 cc dd D (tmP D a D.n)) : Work wb wr OB g go g2 o2 cc dd D (tmO D a b 0) := h.congr rfl rfl (fun i hi => by have hi' : i < D.n := hi; exact ⟨rfl, rfl, by simp [tmO, tmP, hi']⟩) (fun i _ => by simp [tmO, tmP])
theorem tmO_step {k : Nat} (h : Work wb wr OB g go g2 o2 cc dd D (setOd (tmO D a b k) k (D.od k * b))) : Work wb wr OB g go g2 o2 cc dd D (tmO D a b (k + 1)) :=
  h.congr rfl rfl (fun i _ => ⟨rfl, rfl, rfl⟩) (fun i _ => if_step (x := fun i => D.od i * b) (y := D.od))
theorem tmO_end (h : Work wb wr OB g go g2 o2 cc dd D (tmO D a b D.m)) : Work wb wr OB g go g2 o2 cc dd D (tmD D a b) := h.congr rfl rfl (fun i _ => ⟨rfl, rfl, rfl⟩) (fun i hi => by have hi' : i < D.m := hi; simp [tmO, tmD, hi'])
end

theorem rev_ok {D : Duct} (hok : D.ok = true) : (revD D).ok = true := by
  obtain ⟨h1, h2, h3, h4⟩ := D.ok_parts hok
  refine Duct.ok_mk h1 h2 (allN_iff.2 fun k hk => within_iff.2 ?_) (allN_iff.2 fun k hk => ptOk_iff.2 ?_)
  · have hk' : k < D.m := hk
    exact h3 (D.m - 1 - k) (by omega)
  · exact h4 (D.m - k) (by omega)
end Go.Proofs.Ytkdlppekjjbgoaa
