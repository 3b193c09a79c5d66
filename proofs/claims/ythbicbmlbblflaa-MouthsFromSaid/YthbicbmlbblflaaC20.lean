/- Boxes of mouths: From and Need of the program. -/
import Derived.Test.YthbicbmlbblflaaC19

set_option linter.unusedSimpArgs false

set_option linter.unusedVariables false

namespace Go.Proofs.Ythbicbmlbblflaa

open Go.RowKit Go.Shelf
attribute [local go_sem] Oper.semAt_some

def frE (D : Bx) (k n : Int) : Int := chkE D.ok (isQ D k && within n 1 20)
set_option maxRecDepth 100000 in
set_option maxHeartbeats 4000000 in
theorem fromP_ok (D : Bx) (p q : Option Addr) (c d A G : Nat) (w : World) (hok : D.ok = true) (hA : A < D.n) (hG : 0 < G ∧ G ≤ 20) (hi : BxIn w w.heap.size D p q) :
    Calls Try.prog 28 #[.agg #[.slice p D.n c, .slice q D.m d], .int .i64 (A : Int), .int .i64 (G : Int)] w fun e w' => e = .returned (.tuple #[.int .i64 (onI (fsN (hasB D A G) 41)), .int .i64 (noneE (fsN (hasB D A G) 41).isSome)]) ∧ Below w.heap.size w w' := by
  obtain ⟨w1, x, hw1, hb1, hz1, F0, F1⟩ := box_bx w p q D.n D.m c d
  have hn5 := (Bx.ok_parts hok).1
  have hm5 : D.m ≤ 5 := by have := (Bx.ok_parts hok).2.1; omega
  have HB := Lib.hid hb1
  have HI : Hid (∀ x : Ext w1, BxIn x.v x.v.heap.size D p q) := fun x => (hi.bel hb1).bel x.b
  have hw : within (G : Int) 1 20 = true := within_tt (by omega) (by omega)
  have hq : isQ D (A : Int) = true := isQ_iff.2 ⟨by omega, by omega⟩
  have HG := Lib.hid (show ∀ V : World, Calls Try.prog 74 #[.int .i64 (G : Int)] V fun e w' => e = .returned (.bool true) ∧ Below V.heap.size V w' from fun V => by
    have := isMany_any (G : Int) V
    rw [hw] at this
    exact this)
  have HQ := Lib.hid (show ∀ V : World, Calls Try.prog 73 #[.agg #[.slice p D.n c, .slice q D.m d], .int .i64 (A : Int)] V fun e w' => e = .returned (.bool true) ∧ Below V.heap.size V w' from fun V => by
    have := isQuarter_any D p q c d (A : Int) V
    rw [hq] at this
    exact this)
  have HCE := Lib.hid (chkE_ok.2 ⟨hok, rfl⟩)
  have HU := Lib.hid (show ∀ V : World, BxIn V V.heap.size D p q → Calls Try.prog 75 #[.agg #[.slice p D.n c, .slice q D.m d, .int .i64 40], .int .i64 (A : Int), .int .i64 (G : Int)] V fun e w' => e = .returned (.tuple #[.int .i64 (onI (fsN (hasB D A G) 41)), .bool (fsN (hasB D A G) 41).isSome]) ∧ Below V.heap.size V w' from fun V h => callsIn_wide.1 (untilM_any D p q c d A G V hok hG h))
  clear hb1 hz1 hi hw hq hok
  go_enter Try.func28, Try.ntmps28
  go_wp2
  refine quiet_e (by kernel_rfl) (by kernel_rfl) ?_
  repeat (first | go_big_quiet_step ((first | (go_at_call 73; exact quiet_x (HQ.out _)) | (go_at_call 74; exact quiet_x (HG.out _)) | (go_at_call 60; exact quiet_x (check_is HCE.out (by omega) (by omega) (HI.out _))))) | quiet_step ((first | (go_at_call 73; exact quiet_x (HQ.out _)) | (go_at_call 74; exact quiet_x (HG.out _)) | (go_at_call 60; exact quiet_x (check_is HCE.out (by omega) (by omega) (HI.out _))))))
  refine wpQuiet_nil ?_
  intro w6 hw6
  obtain ⟨yq, rfl⟩ := hw6
  go_wp2_with fail
  refine (quiet_x (HU.out _ (HI.out _))).mono ?_
  rintro e w' ⟨rfl, y, rfl⟩
  go_wp2_with fail
  refine (orNone_on _ _).mono ?_
  rintro e w' ⟨rfl, rfl⟩
  go_wp2
  go_ret2
  exact ⟨rfl, bT HB.out y.b⟩
theorem index_five (g : Nat → Int) {A : Nat} (hA : A < 5) (W : World) : (Instr.index 73 (.agg #[.int .i64 (g 0), .int .i64 (g 1), .int .i64 (g 2), .int .i64 (g 3), .int .i64 (g 4)]) (.int .i64 (A : Int))).run Try.prog W = .ok (.int .i64 (g A)) W := by
  obtain ⟨i0, hi, hz, hs, hb⟩ := info_parts infoI
  have hcc : Try.prog.cellsOf 3 = 1 := by kernel_rfl
  rcases (show A = 0 ∨ A = 1 ∨ A = 2 ∨ A = 3 ∨ A = 4 by omega) with rfl | rfl | rfl | rfl | rfl
  all_goals simp [Instr.index, run_underlying Try.underlying73, asIntOf, run_sizeOf W hi, hcc, go_sem]
theorem box_fz (w : World) (p q : Option Addr) (n m c d i : Nat) : (w.alloc (Obj.cells #[Value.slice p n c, Value.slice q m d] 24)).frozen? ⟨w.heap.size, i, none⟩ = false := by go_simp
set_option maxRecDepth 100000 in
set_option maxHeartbeats 4000000 in
theorem withShare_any (D : Bx) (p q : Option Addr) (c d k : Nat) (v : Int) (w : World) (hn : D.n ≤ 40) (hk : k < D.n) (hi : BxIn w w.heap.size D p q) :
    Calls Try.prog 76 #[.agg #[.slice p D.n c, .slice q D.m d], .int .i64 (k : Int), .int .i64 v] w fun e w' => ∃ p' c', e = .returned (.agg #[.slice p' D.n c', .slice q D.m d]) ∧ Below w.heap.size w w' ∧ BxIn w' w'.heap.size (Bx.setSh D k v) p' q := by
  obtain ⟨w1, x1, hw1, hb1, hz1, F0, F1⟩ := box_bx w p q D.n D.m c d
  have Ff : ∀ i, x1.v.frozen? ⟨w.heap.size, i, none⟩ = false := fun i => by have := box_fz w p q D.n D.m c d i; rw [hw1] at this; exact this
  obtain ⟨w2, x2, hw2, hb2, hz2, G0, G1, Gf⟩ := box_nil x1.v
  have hb12 := bT x1.b hb2
  have HB := Lib.hid (bT hb1 hb12)
  have HIW := Lib.hid hi
  have HI : Hid (∀ x : Ext w2, BxIn x.v x.v.heap.size D p q) := fun x => (hi.bel hb1).bel (bT hb12 x.b)
  have hwl : w.heap.size < x1.v.heap.size := by have := x1.b.size; omega
  have hwl2 : x1.v.heap.size < w2.heap.size := by omega
  have B0 : ∀ z : Ext w2, z.v.cell? ⟨w.heap.size, 0, none⟩ = some (.slice p D.n c) := fun y => F0 (y.up hb12)
  have B1 : ∀ z : Ext w2, z.v.cell? ⟨w.heap.size, 1, none⟩ = some (.slice q D.m d) := fun y => F1 (y.up hb12)
  have Bf : ∀ (z : Ext w2) i, z.v.frozen? ⟨w.heap.size, i, none⟩ = false := fun z i => ((bT hb2 z.b).frozen (p := ⟨w.heap.size, i, none⟩) hwl).trans (Ff i)
  have HG0 := Lib.hid G0; have HG1 := Lib.hid G1; have HGf := Lib.hid Gf; have HBf := Lib.hid Bf
  have HB0 := Lib.hid B0; have HB1 := Lib.hid B1
  have HZ1 := Lib.hid hwl; have HZ2 := Lib.hid hwl2
  obtain ⟨b1, of1, rfl, _, _⟩ := (HI.out x2).s (by omega)
  clear hb1 hz1 hb2 hz2 hb12 hi F0 F1 Ff G0 G1 Gf Bf hwl hwl2
  go_enter Try.func76, Try.ntmps76
  go_wp2_with fail
  refine (clone_any D.n c D.sh b1 of1 _ (by omega) ((HI.out x2).s)).mono ?_
  rintro e wc ⟨y, c', rfl, hcl⟩
  obtain ⟨g, rfl, hg1, hg2, hga, hgf⟩ := hcl.here (by omega)
  have hbc := hcl.below
  obtain ⟨zc, hzc⟩ : ∃ zz : Ext w2, wc = zz.v := ⟨⟨wc, bT x2.b hbc⟩, rfl⟩
  subst hzc
  have hrow : RowN zc.v g D.n D.sh := ⟨hg2, fun i hi => by have := hga i hi; rwa [Nat.zero_add] at this, hgf⟩
  have hs1 := x2.b.size
  have hz1 := HZ1.out; have hz2 := HZ2.out
  have hne1 : g ≠ w.heap.size := by omega
  have hne2 : g ≠ x1.v.heap.size := by omega
  have c0 := HB0.out zc; have c1 := HB1.out zc; have cf := HBf.out zc
  have r0 := HG0.out zc; have r1 := HG1.out zc; have rf := HGf.out zc
  have HIN := Lib.hid (HI.out zc)
  have HGE : Hid (w.heap.size ≤ g) := by show _ ≤ _; omega
  clear hcl hg1 hga hgf hbc B0 B1 hw1 hw2
  -- the first store
  obtain ⟨W1, hW1⟩ : ∃ W1, zc.v.setCell ⟨w.heap.size, 0, none⟩ (.slice (some ⟨g, 0, none⟩) D.n c') = W1 := ⟨_, rfl⟩
  have d0 : W1.cell? ⟨w.heap.size, 0, none⟩ = some (.slice (some ⟨g, 0, none⟩) D.n c') := by rw [← hW1]; exact World.cell?_setCell_same _ _ _ c0
  have d1 : W1.cell? ⟨w.heap.size, 1, none⟩ = some (.slice q D.m d) := by rw [← hW1, World.cell?_setCell_other _ _ _ _ (by simp)]; exact c1
  have hrow1 : RowN W1 g D.n D.sh := by rw [← hW1]; exact hrow.blk (setCell_block (by simpa using hne1))
  have s0 : W1.cell? ⟨x1.v.heap.size, 0, none⟩ = some (.slice none 0 0) := by rw [← hW1, World.cell?_setCell_other _ _ _ _ (by first | (simp; done) | (simp; omega))]; exact r0
  have s1 : W1.cell? ⟨x1.v.heap.size, 1, none⟩ = some (.slice none 0 0) := by rw [← hW1, World.cell?_setCell_other _ _ _ _ (by first | (simp; done) | (simp; omega))]; exact r1
  have sf : ∀ i, W1.frozen? ⟨x1.v.heap.size, i, none⟩ = false := fun i => by rw [← hW1]; have := rf i; simpa using this
  have HBL1 : Hid (Below w.heap.size w W1) := by rw [← hW1]; exact bS (bT HB.out zc.b) (Nat.le_refl _) _
  obtain ⟨W2, hW2⟩ : ∃ W2, W1.setCell ⟨g, k, none⟩ (.int .i64 v) = W2 := ⟨_, rfl⟩
  have e0 : W2.cell? ⟨w.heap.size, 0, none⟩ = some (.slice (some ⟨g, 0, none⟩) D.n c') := by rw [← hW2, World.cell?_setCell_other _ _ _ _ (by simp [Ne.symm hne1])]; exact d0
  have e1 : W2.cell? ⟨w.heap.size, 1, none⟩ = some (.slice q D.m d) := by rw [← hW2, World.cell?_setCell_other _ _ _ _ (by simp [Ne.symm hne1])]; exact d1
  have hrow2 : RowN W2 g D.n (Bx.setSh D k v).sh := by rw [← hW2]; exact hrow1.set hk v
  have t0 : W2.cell? ⟨x1.v.heap.size, 0, none⟩ = some (.slice none 0 0) := by rw [← hW2, World.cell?_setCell_other _ _ _ _ (by simp [Ne.symm hne2])]; exact s0
  have t1 : W2.cell? ⟨x1.v.heap.size, 1, none⟩ = some (.slice none 0 0) := by rw [← hW2, World.cell?_setCell_other _ _ _ _ (by simp [Ne.symm hne2])]; exact s1
  have tf : ∀ i, W2.frozen? ⟨x1.v.heap.size, i, none⟩ = false := fun i => by rw [← hW2]; have := sf i; simpa using this
  have HBL2 : Hid (Below w.heap.size w W2) := by rw [← hW2]; exact bS HBL1.out HGE.out _
  have HR2 := Lib.hid hrow2
  have HMO : Hid (∀ V : World, Below w.heap.size w V → NumIn V V.heap.size D.m D.mo q) := fun V hV => ((HIW.out.o).below hV).mono hV.size
  have gk := hrow1.c k hk
  have gf := hrow1.fz k
  have hki : (k : Int) < (D.n : Int) := by omega
  clear hrow hrow1 hrow2 r0 r1 rf s0 s1 sf hs1 hz1 hz2
  go_wp2
  refine bodyPost_ret (v := .agg #[.slice (some ⟨g, 0, none⟩) D.n c', .slice q D.m d]) (by simp [results, Try.f76, go_sem, t0, t1, tf]) rfl ?_
  refine ⟨_, _, rfl, bS (bS HBL2.out (Nat.le_of_lt HZ1.out) _) (Nat.le_of_lt HZ1.out) _, ?_, HMO.out _ (bS (bS HBL2.out (Nat.le_of_lt HZ1.out) _) (Nat.le_of_lt HZ1.out) _)⟩
  exact RowN.num (RowN.blk HR2.out (by rw [setCell_block (by simpa using hne2), setCell_block (by simpa using hne2)]))
/-- whether a quarter has so many with a share -/
def needB (D : Bx) (q F G : Nat) (s : Nat) : Bool := decide ((G : Int) ≤ gv (Bx.setSh D q (s : Int)) F q)
set_option maxRecDepth 100000 in
set_option maxHeartbeats 8000000 in
theorem needP_ok (D : Bx) (p q : Option Addr) (c d A F G : Nat) (w : World) (hok : D.ok = true) (hA : A < D.n) (hF : F ≤ 40) (hG : 0 < G ∧ G ≤ 20) (hi : BxIn w w.heap.size D p q) :
    Calls Try.prog 33 #[.agg #[.slice p D.n c, .slice q D.m d], .int .i64 (A : Int), .int .i64 (F : Int), .int .i64 (G : Int)] w fun e w' => e = .returned (.tuple #[.int .i64 (onI (fsN (needB D A F G) 21)), .int .i64 (noneE (fsN (needB D A F G) 21).isSome)]) ∧ Below w.heap.size w w' := by
  obtain ⟨w1, x, hw1, hb1, hz1, F0, F1⟩ := box_bx w p q D.n D.m c d
  have hn5 := (Bx.ok_parts hok).1
  have hm5 : D.m ≤ 5 := by have := (Bx.ok_parts hok).2.1; omega
  have HB := Lib.hid hb1
  have HI : Hid (∀ x : Ext w1, BxIn x.v x.v.heap.size D p q) := fun x => (hi.bel hb1).bel x.b
  have hw : within (G : Int) 1 20 = true := within_tt (by omega) (by omega)
  have hq : isQ D (A : Int) = true := isQ_iff.2 ⟨by omega, by omega⟩
  have HG := Lib.hid (show ∀ V : World, Calls Try.prog 74 #[.int .i64 (G : Int)] V fun e w' => e = .returned (.bool true) ∧ Below V.heap.size V w' from fun V => by
    have := isMany_any (G : Int) V
    rw [hw] at this
    exact this)
  have HQ := Lib.hid (show ∀ V : World, Calls Try.prog 73 #[.agg #[.slice p D.n c, .slice q D.m d], .int .i64 (A : Int)] V fun e w' => e = .returned (.bool true) ∧ Below V.heap.size V w' from fun V => by
    have := isQuarter_any D p q c d (A : Int) V
    rw [hq] at this
    exact this)
  have HV := Lib.hid ((allW_one (F : Int) 0 40).trans (within_tt (by omega) (by omega)))
  have HCE := Lib.hid (chkE_ok.2 ⟨hok, rfl⟩)
  have HOK := Lib.hid hok
  clear hb1 hz1 hi hw hq hok
  go_enter Try.func33, Try.ntmps33
  go_wp2_with fail
  refine (quiet_x (HQ.out _)).mono ?_
  rintro e w' ⟨rfl, y, rfl⟩
  obtain ⟨ya, hya, hna⟩ := one_flow (x := y) (fl := (F : Int)) (t := 3)
  have HN := Lib.hid hna; clear hna
  go_wp2_with fail
  refine (areFlows_any 1 1 (fun _ => (F : Int)) _ _ (by omega) HN.out).mono ?_
  rintro e w' ⟨rfl, rfl⟩
  rw [HV.out]
  clear hya
  go_wp2_with fail
  refine (quiet_x (HG.out _)).mono ?_
  rintro e w' ⟨rfl, y2, rfl⟩
  go_wp2_with fail
  refine (quiet_x (check_is HCE.out (by omega) (by omega) (HI.out _))).mono ?_
  rintro e w' ⟨rfl, y3, rfl⟩
  go_wp2
  clear hw1
  go_loopw [31] (fun i wr => ∃ k : Nat, i = .int .i64 (k : Int) ∧ k ≤ 21 ∧ fsN (needB D A F G) k = none ∧ ∃ z : Ext w1, wr = z.v) (fun i _ => 21 - (intOf i).toNat)
  case atStart => exact ⟨0, rfl, by omega, rfl, y3, rfl⟩
  case round =>
    obtain ⟨k, rfl, hk, hfs, z, rfl⟩ := hrel
    have HFS := Lib.hid hfs; clear hfs
    by_cases hlt : k < 21
    · have hkm : (k : Int) < 21 := by omega
      have hoks := Bx.setSh_ok HOK.out A (v := (k : Int)) ⟨by omega, by omega⟩
      have HDV := Lib.hid (show ∀ (V : World) (p' : Option Addr) (c' : Nat), BxIn V V.heap.size (D.setSh A (k : Int)) p' q → Calls Try.prog 63 #[.agg #[.slice p' D.n c', .slice q D.m d], .int .i64 (F : Int)] V fun e w' => e = .returned (.agg #[.int .i64 (gv (D.setSh A (k : Int)) F 0), .int .i64 (gv (D.setSh A (k : Int)) F 1), .int .i64 (gv (D.setSh A (k : Int)) F 2), .int .i64 (gv (D.setSh A (k : Int)) F 3), .int .i64 (gv (D.setSh A (k : Int)) F 4)]) ∧ Below V.heap.size V w' from
        fun V p' c' h => divide_any (D.setSh A (k : Int)) p' q c' d F V hoks hF h)
      have hix := fun W => index_five (gv (D.setSh A (k : Int)) F) (A := A) (by omega) W
      clear hoks
      go_wp2_with fail
      refine (withShare_any D p q c d A (k : Int) _ (by omega) hA (HI.out _)).mono ?_
      rintro e wv ⟨p', c', rfl, hbv, hin⟩
      obtain ⟨zv, rfl⟩ : ∃ zz : Ext w1, wv = zz.v := ⟨⟨_, bT z.b hbv⟩, rfl⟩
      have HIN := Lib.hid hin
      clear hbv hin
      go_wp2_with fail
      refine (quiet_x (HDV.out _ p' c' HIN.out)).mono ?_
      rintro e w' ⟨rfl, y5, rfl⟩
      cases hpb : needB D A F G k with
      | true =>
        have HR := Lib.hid (show fsN (needB D A F G) 21 = some k from fsN_hit HFS.out hpb hlt)
        have jg : decide ((G : Int) ≤ gv (D.setSh A (k : Int)) F A) = true := hpb
        clear hpb
        go_wp2
        go_ret2
        exact ⟨by rw [HR.out]; rfl, bT HB.out y5.b⟩
      | false =>
        have HR := Lib.hid (show fsN (needB D A F G) (k + 1) = none from fsN_miss HFS.out hpb)
        have jg : decide ((G : Int) ≤ gv (D.setSh A (k : Int)) F A) = false := hpb
        clear hpb
        go_wp2
        go_roundw
        case rel => exact ⟨k + 1, by go_num, hlt, HR.out, y5, rfl⟩
        case measure => first | (simp [intOf]; done) | (simp [intOf]; omega)
    · have HR := Lib.hid (show fsN (needB D A F G) 21 = none from by rw [← show k = 21 by omega]; exact HFS.out)
      have j : decide ((k : Int) < 21) = false := by simp; omega
      go_wp2
      go_ret2
      exact ⟨by rw [HR.out]; rfl, bT HB.out z.b⟩
end Go.Proofs.Ythbicbmlbblflaa
