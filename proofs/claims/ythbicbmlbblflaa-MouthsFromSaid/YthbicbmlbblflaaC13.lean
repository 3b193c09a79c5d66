/- Boxes of mouths: remainders in the specification's words. -/
import Derived.Test.YthbicbmlbblflaaC12

import Derived.Test.YthbicbmlbblflaaM7

set_option linter.unusedSimpArgs false

set_option linter.unusedVariables false

namespace Go.Proofs.Ythbicbmlbblflaa

open Go.RowKit

theorem own_setQ {w : World} {base b i : Nat} {e : TypeId} {v u : Value} {n : Nat} {xs : List Value} (h : w.ownsRow (base + 1) e 1 v n xs) (hb : b ≤ base) : (w.setCell ⟨b, i, none⟩ u).ownsRow (base + 1) e 1 v n xs := by
  refine h.kept (row := some b) ⟨by first | rfl | simp, by first | rfl | simp, by first | rfl | simp, by first | rfl | simp, fun k _ hk => setCell_block (fun e => hk (by rw [e]))⟩ ?_
  cases hv : v.ownBlock with
  | none => exact .inl rfl
  | some g => exact .inr fun e => by have := (h.lt g hv).1; cases e; omega
/-- the quarter that was picked as number i -/
def gq (D : Bx) (F : Nat) (i : Nat) : Nat := grt (got (h0 D F) (c0 D F) i).2.2 5
def gqI (D : Bx) (F : Nat) (i : Nat) : Int := (gq D F i : Int)
theorem got_mem {D : Bx} {F : Nat} {i : Nat} : ∀ {j : Nat}, inN (gqI D F) (i : Int) j = decide (i ∈ (got (h0 D F) (c0 D F) j).1)
  | 0 => rfl
  | j + 1 => by
    show (inN (gqI D F) (i : Int) j || decide (gqI D F j = (i : Int))) = decide (i ∈ (got (h0 D F) (c0 D F) j).1 ++ [gq D F j])
    rw [got_mem, Bool.eq_iff_iff]
    simp only [Bool.or_eq_true, decide_eq_true_eq, List.mem_append, List.mem_singleton]
    exact or_congr Iff.rfl ⟨fun e => by unfold gqI at e; omega, fun e => by unfold gqI; omega⟩
theorem bR_in {c : Nat → Int} {g : List Nat} {k : Nat} (h : decide (k ∈ g) = true) : bR c g (k + 1) = bR c g k := by
  have : k ∈ g := by simpa using h
  show (if k ∈ g then _ else _) = _
  rw [if_pos this]
theorem bR_first {c : Nat → Int} {g : List Nat} {k : Nat} (h : decide (k ∈ g) = false) (h2 : bR c g k = none) : bR c g (k + 1) = some k := by
  have : ¬ k ∈ g := by simpa using h
  show (if k ∈ g then _ else match bR c g k with | none => some k | some b => if c b < c k then some k else some b) = _
  rw [if_neg this, h2]
theorem bR_cmp {c : Nat → Int} {g : List Nat} {k b : Nat} (h : decide (k ∈ g) = false) (h2 : bR c g k = some b) : bR c g (k + 1) = if decide (c b < c k) then some k else some b := by
  have : ¬ k ∈ g := by simpa using h
  show (if k ∈ g then _ else match bR c g k with | none => some k | some b => if c b < c k then some k else some b) = _
  rw [if_neg this, h2]
  by_cases e : c b < c k
  · simp [e]
  · simp [e]
/-- the state while the specification rounds -/
structure RO (w : World) (D : Bx) (p q : Option Addr) (c d ob : Nat) (h : Nat → Int) (W : World) : Prop where
  bx : BoxAt W w.heap.size D p q c d
  r : RowN W ob D.n h
  bl : Below w.heap.size w W
  lt : w.heap.size < ob
theorem RO.below {w : World} {D : Bx} {p q : Option Addr} {c d ob : Nat} {h : Nat → Int} {A A' : World} (i : RO w D p q c d ob h A) (k : Below A.heap.size A A') : RO w D p q c d ob h A' :=
  ⟨⟨(k.cell (p := ⟨w.heap.size, 0, none⟩) (Nat.lt_trans i.lt i.r.lt)).trans i.bx.c0, (k.cell (p := ⟨w.heap.size, 1, none⟩) (Nat.lt_trans i.lt i.r.lt)).trans i.bx.c1⟩, i.r.bel k, bT i.bl k, i.lt⟩
theorem RO.cong {w : World} {D : Bx} {p q : Option Addr} {c d ob : Nat} {h h' : Nat → Int} {A : World} (i : RO w D p q c d ob h A) (e : ∀ j, j < D.n → h j = h' j) : RO w D p q c d ob h' A :=
  ⟨i.bx, ⟨i.r.lt, fun j hj => (i.r.c j hj).trans (by rw [e j hj]), i.r.fz⟩, i.bl, i.lt⟩
theorem RO.set {w : World} {D : Bx} {p q : Option Addr} {c d ob : Nat} {h : Nat → Int} {A : World} (i : RO w D p q c d ob h A) {k : Nat} (hk : k < D.n) (v : Int) : RO w D p q c d ob (fun j => if j = k then v else h j) (A.setCell ⟨ob, k, none⟩ (.int .i64 v)) :=
  ⟨⟨by rw [World.cell?_setCell_other _ _ _ _ (by have := i.lt; first | (simp; done) | (simp; omega))]; exact i.bx.c0, by rw [World.cell?_setCell_other _ _ _ _ (by have := i.lt; first | (simp; done) | (simp; omega))]; exact i.bx.c1⟩, i.r.set hk v, bS i.bl (Nat.le_of_lt i.lt) _, i.lt⟩
theorem RO.grow {w : World} {D : Bx} {p q : Option Addr} {c d ob : Nat} {h : Nat → Int} {A A' : World} {e : TypeId} {v : Value} {n : Nat} {xs : List Value} (i : RO w D p q c d ob h A) (ho : A.ownsRow (ob + 1) e 1 v n xs) (hg : A.grownBy A' v.ownBlock) : RO w D p q c d ob h A' := by
  have hl := i.r.lt
  have hk : ∀ b, b ≤ ob → A'.heap[b]? = A.heap[b]? := fun b hb => hg.block b (by omega) (fun e => by have := (ho.lt b e.symm).1; omega)
  exact ⟨⟨(World.cell?_of_block (a := ⟨w.heap.size, 0, none⟩) (hk _ (Nat.le_of_lt i.lt))).trans i.bx.c0, (World.cell?_of_block (a := ⟨w.heap.size, 1, none⟩) (hk _ (Nat.le_of_lt i.lt))).trans i.bx.c1⟩, i.r.blk (hk ob (Nat.le_refl _)), below_grown i.bl ho (by have := i.lt; omega) hg, i.lt⟩
theorem lit_cellsQ (w : World) (b : Nat) (x : Value) (e : TypeId) (hb : b = w.heap.size) : ∀ (j : Nat) (u : Value), [x][j]? = some u → (w.alloc (.cells #[x] e)).cell? ((⟨b, 0, none⟩ : Addr).add j) = some u := by subst hb; exact lit_cells1 w x e
theorem onJ_some (b : Nat) : onJ (some b) = (b : Int) := rfl
def subF (F : Nat) (D : Bx) (k : Nat) : Int := (F : Int) - sumN (h0 D F) k
set_option maxRecDepth 100000 in
set_option maxHeartbeats 16000000 in
theorem remOf_any (D : Bx) (p q : Option Addr) (c d F : Nat) (w : World) (hok : D.ok = true) (hF : F ≤ 40) (hi : BxIn w w.heap.size D p q) :
    Calls Try.prog 79 #[.agg #[.slice p D.n c, .slice q D.m d], .int .i64 (F : Int)] w fun e w' => ∃ y c', e = .returned (.slice y D.n c') ∧ New w w' D.n (RM D F) y := by
  obtain ⟨i3, hi3, hz3, hz3', hz3''⟩ := info_parts infoI
  have I3 := Lib.hid hi3; have Z3 := Lib.hid hz3; have Z3' := Lib.hid hz3'; have Z3'' := Lib.hid hz3''; clear hi3 hz3 hz3' hz3''
  obtain ⟨o1, o2, o3, o4⟩ := Bx.ok_parts hok
  obtain ⟨w1, x1, hw1, hb1, hz1, F0, F1⟩ := box_bx w p q D.n D.m c d
  have hmk := fun W => make_ints D.n (by omega) W
  have hrow := RowN.made x1.v D.n 3
  obtain ⟨w2, hw2⟩ : ∃ w2, x1.v.alloc (.cells (madeCells #[.int .i64 0] D.n) 3) = w2 := ⟨_, rfl⟩
  rw [hw2] at hrow
  have hb2 : Below x1.v.heap.size x1.v w2 := by rw [← hw2]; exact bA (Below.refl _ _) _
  have hb12 := bT x1.b hb2
  have HBX : Hid (∀ y : Ext w2, BoxAt y.v w.heap.size D p q c d) := fun y => ⟨F0 (y.up hb12), F1 (y.up hb12)⟩
  have HI : Hid (∀ V : World, Below w.heap.size w V → BxIn V V.heap.size D p q) := fun V hV => (hi.below hV).mono hV.size
  have HOK := Lib.hid hok
  obtain ⟨ob, hob⟩ : ∃ ob, x1.v.heap.size = ob := ⟨_, rfl⟩
  have HRO : Hid (RO w D p q c d ob (fun _ => 0) w2) := ⟨HBX.out ⟨w2, Below.refl _ _⟩, by rw [← hob]; exact hrow, bT hb1 hb12, by have := x1.b.size; omega⟩
  have HS := Lib.hid (show ∀ V : World, BxIn V V.heap.size D p q → Calls Try.prog 49 #[.slice p D.n c] V fun e w' => e = .returned (.int .i64 (allS D)) ∧ V = w' from fun V h => sumR_any D.n c D.sh p V (by omega) (sh_1000 hok) h.s)
  have B0 := HRO.out.bx.c0; have B1 := HRO.out.bx.c1
  have hab := allS_bd hok
  have HN5 := Lib.hid o1
  clear hb1 hz1 hi hb2 hb12 hrow o2 o3 o4 hok
  by_cases ha : allS D = 0
  · have j0 : (allS D == 0) = true := by simpa using ha
    have HN : Hid (∀ i, RM D F i = 0) := fun i => by rw [show RM D F = fun _ => 0 from if_pos ha]
    clear ha
    go_enter Try.func79, Try.ntmps79
    go_wp2_with fail
    try rw [hob]
    refine (HS.out _ (HI.out _ HRO.out.bl)).mono ?_
    rintro e w' ⟨rfl, rfl⟩
    go_wp2
    go_ret
    refine ⟨_, _, rfl, HRO.out.bl, fun h0 => ⟨_, rfl, Nat.le_of_lt HRO.out.lt, HRO.out.r.lt, fun i hi => ?_, HRO.out.r.fz⟩⟩
    rw [Nat.zero_add, HN.out]
    exact HRO.out.r.c i hi
  · have j0 : (allS D == 0) = false := by simpa using ha
    have HA := Lib.hid ha
    clear ha
    go_enter Try.func79, Try.ntmps79
    go_wp2_with fail
    try rw [hob]
    refine (HS.out _ (HI.out _ HRO.out.bl)).mono ?_
    rintro e w' ⟨rfl, rfl⟩
    go_wp2
    clear B0 B1 hw1 hw2 F0 F1 hmk
    go_loopw [7, 8] (fun l i wr => ∃ k : Nat, i = .int .i64 (k : Int) ∧ l = .int .i64 (subF F D k) ∧ k ≤ D.n ∧ RO w D p q c d ob (hT D F k) wr) (fun _ i _ => D.n - (intOf i).toNat)
    case atStart => exact ⟨0, rfl, by unfold subF; simp [sumN], Nat.zero_le _, HRO.out.cong (fun j hj => by unfold hT; simp)⟩
    case round =>
      obtain ⟨k, rfl, rfl, hk, hri⟩ := hrel
      have HR := Lib.hid hri; clear hri HRO
      by_cases hlt : k < D.n
      · have HIN := Lib.hid (HI.out _ HR.out.bl)
        obtain ⟨b1, of1, rfl, _, _⟩ := HIN.out.s (by omega)
        have E0 := (HIN.out.s.cell hlt).2
        have B0 := HR.out.bx.c0; have B1 := HR.out.bx.c1
        have hkm : (k : Int) < (D.n : Int) := by omega
        have hpb := part_bd (fl := (F : Int)) HOK.out ⟨by omega, by omega⟩ hlt
        have ew : IntKind.i64.wrap ((F : Int) * D.sh k) = (F : Int) * D.sh k := IntWalk.i64_in _ (by omega)
        have ha0 : ¬ allS D = 0 := HA.out
        have hh := h0_bd (fl := (F : Int)) HOK.out HA.out ⟨by omega, by omega⟩ k
        have eh : (F : Int) * D.sh k / allS D = h0 D F k := (if_pos hlt).symm
        have t1 : ((F : Int) * D.sh k).tdiv (allS D) = h0 D F k := by rw [Int.tdiv_eq_ediv_of_nonneg hpb.1]; exact eh
        have hsb := sumN_bd (f := h0 D F) (l := D.n) (fun i hi => by have := h0_bd (fl := (F : Int)) HOK.out HA.out ⟨by omega, by omega⟩ i; omega) k hk
        obtain ⟨u, hu⟩ : ∃ u, h0 D F k = u := ⟨_, rfl⟩
        have HU := Lib.hid hu
        rw [hu] at t1 eh hh
        have e1 : IntKind.i64.wrap u = u := IntWalk.i64_in _ (by omega)
        have e2 : IntKind.i64.wrap (subF F D k - u) = subF F D (k + 1) := by
          rw [IntWalk.i64_in _ (by unfold subF; omega)]
          unfold subF
          show _ = (F : Int) - (sumN (h0 D F) k + h0 D F k)
          rw [hu]; omega
        have gh := HR.out.r.c k hlt
        have fh := HR.out.r.fz k
        clear hu hpb hh hsb
        go_wp2
        go_roundw
        case rel =>
          have h1 := HR.out.set hlt u
          exact ⟨k + 1, by go_num, rfl, hlt, h1.cong fun j _ => by rw [← HU.out]; exact hT_next D F k j⟩
        case measure => first | (simp [intOf]; done) | (simp [intOf]; omega)
      · have hkn : k = D.n := by omega
        have HRa : Hid (RO w D p q c d ob (h0 D F) wr) := HR.out.cong (fun j _ => by rw [hkn]; exact hT_all D F j)
        have hsub : subF F D k = lft D F := by
          rw [hkn]
          show (F : Int) - sumN (h0 D F) D.n = (F : Int) - sumN (h0 D F) 5
          rw [sumN_padM (f := h0 D F) (n := D.n) (fun i hi => h0_out hi) HN5.out]
        have j : decide ((k : Int) < (D.n : Int)) = false := by simp; omega
        have hl := lft_bd (fl := (F : Int)) HOK.out HA.out
        obtain ⟨L, hL⟩ : ∃ L : Nat, lft D F = (L : Int) := ⟨(lft D F).toNat, by omega⟩
        have HLN := Lib.hid hL
        have hL4 : L ≤ 4 := by omega
        have hsL : subF F D k = (L : Int) := hsub.trans hL
        rw [hsL]
        clear hsL hsub hkn hl hL
        go_wp2
        clear j
        go_loopw [7, 9] (fun l g wr => ∃ j : Nat, l = .int .i64 ((L : Int) - (j : Int)) ∧ j ≤ L ∧ RO w D p q c d ob (got (h0 D F) (c0 D F) j).2.1 wr ∧ wr.ownsRow (ob + 1) 3 1 g j (row1 (gqI D F) j)) (fun l _ _ => (intOf l).toNat)
        case atStart => exact ⟨0, by simp, Nat.zero_le _, HRa.out, World.ownsRow_nil _ _ _ _⟩
        case round =>
          obtain ⟨m, rfl, hm, hri, hown⟩ := hrel
          have HR3 := Lib.hid hri; have HOW := Lib.hid hown; clear hri hown HR HRa
          obtain ⟨gp, gc, rfl, hgn⟩ := num_own HOW.out
          have HGN : Hid (∀ z : Ext wr, NumIn z.v z.v.heap.size m (gqI D F) gp) := fun z => hgn.bel z.b
          clear hgn
          by_cases hlt2 : m < L
          · have hgi := got_inv (fl := (F : Int)) HOK.out HA.out (j := m) (by have := HLN.out; omega)
            have hbr := bR_is HOK.out HA.out hgi (by have := HLN.out; omega)
            obtain ⟨p1, p2, p3⟩ := hgi.pos HOK.out HA.out (by have := HLN.out; omega)
            have HGI := Lib.hid hgi
            have HBR : Hid (bR (c0 D F) (got (h0 D F) (c0 D F) m).1 D.n = some (gq D F m)) := hbr
            have hqn : gq D F m < D.n := p2
            have hqv := hgi.hh (gq D F m)
            rw [if_neg (show gq D F m ∉ _ from p3)] at hqv
            have hb := h0_bd (fl := (F : Int)) HOK.out HA.out ⟨by omega, by omega⟩ (gq D F m)
            obtain ⟨G, hG⟩ : ∃ G, (got (h0 D F) (c0 D F) m).1 = G := ⟨_, rfl⟩
            have HMEM : Hid (∀ i : Nat, inN (gqI D F) (i : Int) m = decide (i ∈ G)) := fun i => by rw [← hG]; exact got_mem
            rw [hG] at HBR
            have HIN : Hid (∀ z : Ext wr, BxIn z.v z.v.heap.size D p q) := fun z => HI.out _ (bT HR3.out.bl z.b)
            have B0 : ∀ z : Ext wr, z.v.cell? ⟨w.heap.size, 0, none⟩ = some (.slice p D.n c) := fun z => (HR3.out.below z.b).bx.c0
            have B1 : ∀ z : Ext wr, z.v.cell? ⟨w.heap.size, 1, none⟩ = some (.slice q D.m d) := fun z => (HR3.out.below z.b).bx.c1
            have jm : decide (0 < (L : Int) - (m : Int)) = true := by simp; omega
            have ewL : IntKind.i64.wrap ((L : Int) - (m : Int) - 1) = (L : Int) - ((m + 1 : Nat) : Int) := by rw [IntWalk.i64_in _ (by omega)]; omega
            obtain ⟨z0, hz0⟩ := rebase wr
            clear hgi hbr p1 p2 p3 hG
            have HW0 : Hid (∀ z : Ext wr, Below wr.heap.size wr z.v) := fun z => z.b
            rw [hz0]
            clear hz0
            go_wp2
            go_loopw [10, 11] (fun b i wx => ∃ k' : Nat, i = .int .i64 (k' : Int) ∧ b = .int .i64 (onJ (bR (c0 D F) G k')) ∧ k' ≤ D.n ∧ ∃ z : Ext wr, wx = z.v) (fun _ i _ => D.n - (intOf i).toNat)
            case atStart => exact ⟨0, rfl, rfl, Nat.zero_le _, z0, rfl⟩
            case round =>
              obtain ⟨k', rfl, rfl, hk', z, rfl⟩ := hrel
              by_cases hlt3 : k' < D.n
              · obtain ⟨b1, of1, rfl, _, _⟩ := (HIN.out z).s (by omega)
                have E0 : ∀ z : Ext wr, z.v.cell? ⟨b1, of1 + k', none⟩ = some (.int .i64 (D.sh k')) := fun z => ((HIN.out z).s.cell hlt3).2
                have hkm : (k' : Int) < (D.n : Int) := by omega
                have hHI := Lib.hid (show ∀ z : Ext wr, Calls Try.prog 89 #[.slice gp m gc, .int .i64 (k' : Int)] z.v fun e w' => e = .returned (.bool (decide (k' ∈ G))) ∧ z.v = w' from fun z => by
                  have := in_any m gc (gqI D F) (k' : Int) gp z.v (by omega) (HGN.out z)
                  rw [HMEM.out] at this
                  exact this)
                cases hin : decide (k' ∈ G) with
                | true =>
                  rw [hin] at hHI
                  have HN := Lib.hid (bR_in (c := c0 D F) hin)
                  clear hin jm ewL hqv hb
                  go_wp2
                  refine quiet_e (by kernel_rfl) (by kernel_rfl) ?_
                  repeat (first | go_big_quiet_step ((first | (go_at_call 89; exact quiet_s (hHI.out _)))) | quiet_step ((first | (go_at_call 89; exact quiet_s (hHI.out _)))))
                  refine wpQuiet_nil ?_
                  intro w6 hw6
                  obtain ⟨y2, rfl⟩ := hw6
                  go_wp2
                  go_roundw
                  case rel => exact ⟨k' + 1, by go_num, by rw [HN.out], hlt3, y2, rfl⟩
                  case measure => first | (simp [intOf]; done) | (simp [intOf]; omega)
                | false =>
                  rw [hin] at hHI
                  cases hbb : bR (c0 D F) G k' with
                  | none =>
                    have HN := Lib.hid (bR_first hin hbb)
                    have f1 : onJ none = -1 := rfl
                    clear hin jm ewL hqv hb hbb
                    go_wp2
                    refine quiet_e (by kernel_rfl) (by kernel_rfl) ?_
                    repeat (first | go_big_quiet_step ((first | (go_at_call 89; exact quiet_s (hHI.out _)))) | quiet_step ((first | (go_at_call 89; exact quiet_s (hHI.out _)))))
                    refine wpQuiet_nil ?_
                    intro w6 hw6
                    obtain ⟨y2, rfl⟩ := hw6
                    go_wp2
                    go_roundw
                    case rel => exact ⟨k' + 1, by go_num, by rw [HN.out] <;> rfl, hlt3, y2, rfl⟩
                    case measure => first | (simp [intOf]; done) | (simp [intOf]; omega)
                  | some b =>
                    have HN := Lib.hid (bR_cmp hin hbb)
                    have hbl := bR_lt hbb
                    have f1 : onJ (some b) = (b : Int) := rfl
                    have hbn : (b : Int) < (D.n : Int) := by omega
                    have hb0 : decide ((b : Int) < 0) = false := by simp
                    have E1 : ∀ z : Ext wr, z.v.cell? ⟨b1, of1 + b, none⟩ = some (.int .i64 (D.sh b)) := fun z => ((HIN.out z).s.cell (by omega)).2
                    have hp1 := part_bd (fl := (F : Int)) HOK.out ⟨by omega, by omega⟩ hlt3
                    have hp2 := part_bd (fl := (F : Int)) HOK.out ⟨by omega, by omega⟩ (show b < D.n by omega)
                    have hc1 := c0_bd (fl := (F : Int)) HOK.out HA.out k'
                    have hc2 := c0_bd (fl := (F : Int)) HOK.out HA.out b
                    have ew1 : IntKind.i64.wrap ((F : Int) * D.sh k') = (F : Int) * D.sh k' := IntWalk.i64_in _ (by omega)
                    have ew2 : IntKind.i64.wrap ((F : Int) * D.sh b) = (F : Int) * D.sh b := IntWalk.i64_in _ (by omega)
                    have ha0 : ¬ allS D = 0 := HA.out
                    have r1 : (F : Int) * D.sh k' % allS D = c0 D F k' := (if_pos hlt3).symm
                    have r2 : (F : Int) * D.sh b % allS D = c0 D F b := (if_pos (show b < D.n by omega)).symm
                    have t1 : ((F : Int) * D.sh k').tmod (allS D) = c0 D F k' := by rw [Int.tmod_eq_emod_of_nonneg hp1.1]; exact r1
                    have t2 : ((F : Int) * D.sh b).tmod (allS D) = c0 D F b := by rw [Int.tmod_eq_emod_of_nonneg hp2.1]; exact r2
                    obtain ⟨u1, hu1⟩ : ∃ u, c0 D F k' = u := ⟨_, rfl⟩
                    obtain ⟨u2, hu2⟩ : ∃ u, c0 D F b = u := ⟨_, rfl⟩
                    rw [hu1] at t1 r1 hc1; rw [hu2] at t2 r2 hc2
                    rw [hu1, hu2] at HN
                    have ew3 : IntKind.i64.wrap u1 = u1 := IntWalk.i64_in _ (by omega)
                    have ew4 : IntKind.i64.wrap u2 = u2 := IntWalk.i64_in _ (by omega)
                    clear hin jm ewL hqv hb hbb hp1 hp2 hc1 hc2 hu1 hu2 hbl
                    cases hcmp : decide (u2 < u1) with
                    | true =>
                      have HN2 := Lib.hid (HN.out.trans (by rw [hcmp]; rfl : (if decide (u2 < u1) = true then some k' else some b) = some k'))
                      go_wp2
                      refine quiet_e (by kernel_rfl) (by kernel_rfl) ?_
                      repeat (first | go_big_quiet_step ((first | (go_at_call 89; exact quiet_s (hHI.out _)))) | quiet_step ((first | (go_at_call 89; exact quiet_s (hHI.out _)))))
                      refine wpQuiet_nil ?_
                      intro w6 hw6
                      obtain ⟨y2, rfl⟩ := hw6
                      go_wp2
                      go_roundw
                      case rel => exact ⟨k' + 1, by go_num, by rw [HN2.out] <;> rfl, hlt3, y2, rfl⟩
                      case measure => first | (simp [intOf]; done) | (simp [intOf]; omega)
                    | false =>
                      have HN2 := Lib.hid (HN.out.trans (by rw [hcmp]; rfl : (if decide (u2 < u1) = true then some k' else some b) = some b))
                      go_wp2
                      refine quiet_e (by kernel_rfl) (by kernel_rfl) ?_
                      repeat (first | go_big_quiet_step ((first | (go_at_call 89; exact quiet_s (hHI.out _)))) | quiet_step ((first | (go_at_call 89; exact quiet_s (hHI.out _)))))
                      refine wpQuiet_nil ?_
                      intro w6 hw6
                      obtain ⟨y2, rfl⟩ := hw6
                      go_wp2
                      go_roundw
                      case rel => exact ⟨k' + 1, by go_num, by rw [HN2.out] <;> rfl, hlt3, y2, rfl⟩
                      case measure => first | (simp [intOf]; done) | (simp [intOf]; omega)
              · have hkn : k' = D.n := by omega
                have j3 : decide ((k' : Int) < (D.n : Int)) = false := by simp; omega
                have hbest : onJ (bR (c0 D F) G k') = (gq D F m : Int) := by rw [hkn, HBR.out]; rfl
                rw [hbest]
                have HN1 : Hid (∀ i, (got (h0 D F) (c0 D F) (m + 1)).2.1 i = up (got (h0 D F) (c0 D F) m).2.1 (gq D F m) i) := fun i => rfl
                have HRZ := Lib.hid (HR3.out.below z.b)
                have HOZ := Lib.hid (own_below HOW.out z.b)
                have HGM : Hid (gqI D F m = (gq D F m : Int)) := rfl
                obtain ⟨x, hx⟩ : ∃ x, gq D F m = x := ⟨_, rfl⟩
                rw [hx] at hqn hqv hb HN1 HGM ⊢
                obtain ⟨vv, hvv⟩ : ∃ vv, (got (h0 D F) (c0 D F) m).2.1 x = vv := ⟨_, rfl⟩
                have HVV := Lib.hid hvv
                have gh := HRZ.out.r.c x hqn
                have fh := HRZ.out.r.fz x
                rw [hvv] at gh hqv
                have ew : IntKind.i64.wrap (vv + 1) = vv + 1 := IntWalk.i64_in _ (by omega)
                have hxi : (x : Int) < (D.n : Int) := by omega
                have HRS := Lib.hid (HRZ.out.set hqn (vv + 1))
                have HOS : Hid ((z.v.setCell ⟨ob, x, none⟩ (.int .i64 (vv + 1))).ownsRow (ob + 1) 3 1 (.slice gp m gc) m (row1 (gqI D F) m)) := own_setQ HOZ.out (Nat.le_refl _)
                clear hbest hkn hx hvv hqv hb
                go_wp2_with (at_builtin; refine wpList_append_own _ rfl _ _ 22 rfl (ob + 1) 3 i3 _ 1 8 Try.underlying22 I3.out Z3.out Z3'.out Z3''.out rfl (by decide) _ _ _ rfl (HOS.out.alloc _) ⟨z.v.heap.size, 0, none⟩ 1 1 [.int .i64 (x : Int)] rfl rfl (lit_cellsQ _ _ _ _ (by simp)) ?c2 ?c3 ?c4 ?c5 ?_)
                case c2 => simp [Value.oneCell']
                case c3 => unfold maxLen; omega
                case c4 => omega
                case c5 => have := HRZ.out.r.lt; simp; omega
                intro v' w4 hown hgrow _
                have HRG := Lib.hid ((HRS.out.below (bA (Below.refl _ _) _)).grow (HOS.out.alloc _) hgrow)
                have HOG := Lib.hid hown
                clear hown hgrow gh fh
                go_wp2
                go_roundw
                case rel =>
                  refine ⟨m + 1, congrArg (Value.int .i64) (by omega), hlt2, HRG.out.cong (fun j hj => ?_), ?_⟩
                  · rw [HN1.out]
                    unfold up
                    by_cases e : j = x
                    · rw [if_pos e, if_pos e, e, HVV.out]
                    · rw [if_neg e, if_neg e]
                  · have := HOG.out
                    rw [← HGM.out] at this
                    exact this
                case measure => first | (simp [intOf]; done) | (simp [intOf]; omega)
          · have HME := Lib.hid (show m = L by omega)
            have hjz : (L : Int) - (m : Int) = 0 := by omega
            have hRM : ∀ i, (got (h0 D F) (c0 D F) m).2.1 i = RM D F i := fun i => by
              rw [show RM D F = (got (h0 D F) (c0 D F) (lft D F).toNat).2.1 from if_neg HA.out, HLN.out, HME.out]; rfl
            have HFI := Lib.hid (HR3.out.cong (fun j _ => hRM j))
            rw [hjz]
            clear hRM hjz
            go_wp2
            go_ret
            refine ⟨_, _, rfl, HFI.out.bl, fun h0 => ⟨_, rfl, Nat.le_of_lt HFI.out.lt, HFI.out.r.lt, fun i hi => ?_, HFI.out.r.fz⟩⟩
            rw [Nat.zero_add]
            exact HFI.out.r.c i hi
end Go.Proofs.Ythbicbmlbblflaa
