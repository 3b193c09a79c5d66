/- The cheapest gaugings, of the program: the table. -/
import Derived.Test.YtkdlppekjjbgoaaW2

set_option linter.unusedSimpArgs false

set_option linter.unusedVariables false

namespace Go.Proofs.Ytkdlppekjjbgoaa

open Go.RowKit

theorem zero_cells : Try.zeroCells105 = Array.replicate 112 (Value.int .i64 0) := by kernel_rfl
theorem tab_new (w : World) : ∃ (w1 : World) (x : Ext w1), w.alloc (Obj.cells Try.zeroCells105 105) = x.v ∧ Below w.heap.size w w1 ∧ TabIn w1 w.heap.size (fun _ _ => (0, 0)) := by
  have hc : ∀ i, i < 112 → (w.alloc (Obj.cells Try.zeroCells105 105)).cell? ⟨w.heap.size, i, none⟩ = some (.int .i64 0) := fun i hi => by
    rw [cell_of_row _ w.heap.size i _ _ (0, 0) (by first | exact heap_alloc_new _ _ | exact heap_alloc_new _), zero_cells]
    simp [hi]
  refine ⟨_, ⟨_, Below.refl _ _⟩, rfl, bA (Below.refl _ _) _, by simp, fun f t hf ht => hc _ (by omega), fun f t hf ht => hc _ (by omega), fun i => by go_simp⟩
theorem TabIn.set {w : World} {cb f t : Nat} {V U : Nat → Nat → Int × Int} {x : Int × Int} (h : TabIn w cb V) (hf : f < 7) (ht : t < 8) (hU : ∀ f' t', f' < 7 → t' < 8 → U f' t' = if f' = f ∧ t' = t then x else V f' t') :
    TabIn ((w.setCell ⟨cb, f * 16 + t * 2, none⟩ (.int .i64 x.1)).setCell ⟨cb, f * 16 + t * 2 + 1, none⟩ (.int .i64 x.2)) cb U := by
  have hs := setTwo_same (u := .int .i64 x.1) (v := .int .i64 x.2) (h.c0 f t hf ht) (h.c1 f t hf ht)
  refine ⟨by simpa using h.lt, fun f' t' hf' ht' => ?_, fun f' t' hf' ht' => ?_, fun i => by simpa using h.fz i⟩
  · rw [hU f' t' hf' ht']
    by_cases e : f' = f ∧ t' = t
    · obtain ⟨rfl, rfl⟩ := e
      rw [if_pos ⟨rfl, rfl⟩]; exact hs.1
    · rw [if_neg e, setTwo_else (by simp; try omega) (by simp; try omega)]; exact h.c0 f' t' hf' ht'
  · rw [hU f' t' hf' ht']
    by_cases e : f' = f ∧ t' = t
    · obtain ⟨rfl, rfl⟩ := e
      rw [if_pos ⟨rfl, rfl⟩]; exact hs.2
    · rw [if_neg e, setTwo_else (by simp; try omega) (by simp; try omega)]; exact h.c1 f' t' hf' ht'
theorem TabIn.congr {w : World} {cb : Nat} {V U : Nat → Nat → Int × Int} (h : TabIn w cb V) (hU : ∀ f t, f < 7 → t < 8 → U f t = V f t) : TabIn w cb U :=
  ⟨h.lt, fun f t hf ht => by rw [hU f t hf ht]; exact h.c0 f t hf ht, fun f t hf ht => by rw [hU f t hf ht]; exact h.c1 f t hf ht, h.fz⟩
/-- the table with all rows from j on -/
def PV (D : Duct) (j f t : Nat) : Int × Int := if j ≤ f ∧ t ≤ D.m then CH (gW D) f t else (0, 0)
/-- the table with the rows behind f, and row f below tt -/
def PW (D : Duct) (f0 tt f t : Nat) : Int × Int := if f0 < f ∧ t ≤ D.m ∨ f = f0 ∧ t < tt then CH (gW D) f t else (0, 0)
set_option maxRecDepth 100000 in
set_option maxHeartbeats 4000000 in
theorem choicesOf_any (D : Duct) (p q : Option Addr) (c d : Nat) (w : World) (hn : D.n ≤ 40) (hm : D.m ≤ 7) (hnm : D.n = D.m + 1) (hco : ∀ k, k < D.n → 0 ≤ D.co k ∧ D.co k ≤ 20) (hi : DuctIn w w.heap.size D p q) :
    Calls Try.prog 84 #[.iface 96 (.agg #[.slice p D.n c, .slice q D.m d]), .int .i64 D.m] w fun e w' => e = .returned (.pointer (some ⟨w.heap.size, 0, none⟩)) ∧ Below w.heap.size w w' ∧ TabIn w' w.heap.size (PV D 0) := by
  obtain ⟨w1, x1, e1, b1, t1⟩ := tab_new w
  have HI := Lib.hid hi
  have HCO := Lib.hid hco; have HNM := Lib.hid hnm
  have HB1 := Lib.hid b1; have HT1 := Lib.hid t1
  clear b1 t1 hi hco hnm
  go_enter Try.func84, Try.ntmps84
  go_wp2
  go_loopw [6] (fun i wr => ∃ (j : Nat) (a : Int), i = .int .i64 a ∧ a = (j : Int) - 1 ∧ j ≤ D.m ∧ TabIn wr w.heap.size (PV D j) ∧ Below w.heap.size w wr) (fun i _ => (intOf i + 1).toNat)
  case atStart =>
    refine ⟨D.m, _, rfl, by omega, Nat.le_refl _, (HT1.out.bel x1.b).congr fun f t hf ht => ?_, bT HB1.out x1.b⟩
    unfold PV
    split
    · rename_i h; exact CH_one (by omega)
    · rfl
  case round =>
    obtain ⟨j, a, rfl, ha, hj, htb, hbb⟩ := hrel
    have HTB := Lib.hid htb; have HBR := Lib.hid hbb
    clear htb hbb e1
    obtain ⟨z0, hz0⟩ := rebase wr
    rw [hz0]; clear hz0
    cases j with
    | zero =>
      obtain rfl : a = -1 := by omega
      clear ha
      go_wp2
      go_ret
      exact ⟨rfl, bT HBR.out z0.b, HTB.out.bel z0.b⟩
    | succ f =>
      obtain rfl : a = (f : Int) := by omega
      clear ha
      have hf7 : f < 7 := by omega
      have jf : (f : Int) < 7 := by omega
      go_wp2
      have HBS := Lib.hid (bT HBR.out z0.b); have HTS := Lib.hid (HTB.out.bel z0.b)
      clear HTB HBR
      go_loopw [7] (fun i wr => ∃ tt : Nat, i = .int .i64 (tt : Int) ∧ f + 2 ≤ tt ∧ (tt ≤ D.m + 1 ∨ tt = f + 2) ∧ TabIn wr w.heap.size (PW D f tt) ∧ Below w.heap.size w wr) (fun i _ => D.m + 1 - (intOf i).toNat)
      case atStart =>
        refine ⟨f + 2, by go_num, Nat.le_refl _, Or.inr rfl, HTS.out.congr fun f' t' hf' ht' => ?_, HBS.out⟩
        unfold PW PV
        by_cases e : f' = f
        · subst e
          rw [if_neg (show ¬ (f' + 1 ≤ f' ∧ t' ≤ D.m) by omega)]
          split
          · exact CH_one (by omega)
          · rfl
        · by_cases e2 : f + 1 ≤ f' ∧ t' ≤ D.m
          · rw [if_pos (Or.inl ⟨by omega, e2.2⟩), if_pos e2]
          · rw [if_neg (by omega), if_neg e2]
      case round =>
        clear HBS HTS
        obtain ⟨tt, rfl, ht1, ht2, htb, hbb⟩ := hrel
        have HTB := Lib.hid htb; have HBR := Lib.hid hbb
        clear htb hbb
        obtain ⟨z1, hz1⟩ := rebase wr
        rw [hz1]; clear hz1
        by_cases hlt : tt ≤ D.m
        · have d1 : decide ((tt : Int) ≤ (D.m : Int)) = true := by simp; omega
          have ht8 : tt < 8 := by omega
          have jt : (tt : Int) < 8 := by omega
          have C0 : ∀ z : Ext wr, z.v.cell? ⟨w.heap.size, f * 16 + tt * 2, none⟩ = some (.int .i64 (PW D f tt f tt).1) := fun z => (HTB.out.bel z.b).c0 f tt hf7 ht8
          have C1 : ∀ z : Ext wr, z.v.cell? ⟨w.heap.size, f * 16 + tt * 2 + 1, none⟩ = some (.int .i64 (PW D f tt f tt).2) := fun z => (HTB.out.bel z.b).c1 f tt hf7 ht8
          have Cf : ∀ (z : Ext wr) i, z.v.frozen? ⟨w.heap.size, i, none⟩ = false := fun z => (HTB.out.bel z.b).fz
          have HBE := Lib.hid (fun (z : Ext wr) => best_any D p q c d w.heap.size f tt (PW D f tt) z.v hn hm hlt HNM.out ht1 HCO.out (fun pt h1 h2 => ⟨if_pos (Or.inr ⟨rfl, h2⟩), if_pos (Or.inl ⟨h1, hlt⟩)⟩) (HI.out.bel (bT HBR.out z.b)) (HTB.out.bel z.b))
          clear ht2
          go_wp2
          refine wp_region_lastE 8 (by kernel_rfl) rfl (fun yr => ?_)
          refine wpAnyG_take (i := 0) (v := ?_) (by kernel_rfl) rfl (by kernel_rfl) (by kernel_rfl) (by kernel_rfl) (fun _ _ _ h => h) (Or.inl ⟨by rfl, ?_⟩) ⟨_, rfl⟩ ?_
          rotate_left
          · rintro wS ⟨yS, rfl⟩
            go_simp
            try (with_reducible rfl)
          try simp only [Act.put, List.setIfInBounds_toArray, List.set_cons_zero, List.set_cons_succ]
          refine wpAnyG_take (i := 1) (v := ?_) (by kernel_rfl) rfl (by kernel_rfl) (by kernel_rfl) (by kernel_rfl) (fun _ _ _ h => h) (Or.inl ⟨by rfl, ?_⟩) ⟨_, rfl⟩ ?_
          rotate_left
          · rintro wS ⟨yS, rfl⟩
            go_simp
            try (with_reducible rfl)
          try simp only [Act.put, List.setIfInBounds_toArray, List.set_cons_zero, List.set_cons_succ]
          refine wpAnyG_take (i := 2) (v := ?_) (by kernel_rfl) rfl (by kernel_rfl) (by kernel_rfl) (by kernel_rfl) (fun _ _ _ h => h) (Or.inl ⟨by rfl, ?_⟩) ⟨_, rfl⟩ ?_
          rotate_left
          · rintro wS ⟨yS, rfl⟩
            go_simp
            try (with_reducible rfl)
          try simp only [Act.put, List.setIfInBounds_toArray, List.set_cons_zero, List.set_cons_succ]
          refine wpAnyG_take (i := 3) (v := ?_) (by kernel_rfl) rfl (by kernel_rfl) (by kernel_rfl) (by kernel_rfl) (fun _ _ _ h => h) (Or.inl ⟨by rfl, ?_⟩) ⟨_, rfl⟩ ?_
          rotate_left
          · rintro wS ⟨yS, rfl⟩
            go_simp
            try (with_reducible rfl)
          try simp only [Act.put, List.setIfInBounds_toArray, List.set_cons_zero, List.set_cons_succ]
          refine wpAnyG_take (i := 4) (v := ?_) (by kernel_rfl) rfl (by kernel_rfl) (by kernel_rfl) (by kernel_rfl) (fun _ _ _ h => h) (Or.inl ⟨by rfl, ?_⟩) ⟨_, rfl⟩ ?_
          rotate_left
          · rintro wS ⟨yS, rfl⟩
            go_simp
            try (with_reducible rfl)
          try simp only [Act.put, List.setIfInBounds_toArray, List.set_cons_zero, List.set_cons_succ]
          refine wpAnyG_take (i := 6) (v := ?_) (by kernel_rfl) rfl (by kernel_rfl) (by kernel_rfl) (by kernel_rfl) (fun _ _ _ h => h) (Or.inl ⟨by rfl, ?_⟩) ⟨_, rfl⟩ ?_
          rotate_left
          · rintro wS ⟨yS, rfl⟩
            go_simp
            try (with_reducible rfl)
          try simp only [Act.put, List.setIfInBounds_toArray, List.set_cons_zero, List.set_cons_succ]
          refine wpAnyG_one (i := 5) (by kernel_rfl) (by decide) (wpOp_plain rfl rfl ?_)
          go_simp
          go_at_call 91
          refine (quiet_x (HBE.out _)).mono ?_
          rintro e w' ⟨rfl, y, rfl⟩
          refine ⟨⟨y, rfl⟩, ?_⟩
          try simp only [Act.put, List.setIfInBounds_toArray, List.set_cons_zero, List.set_cons_succ]
          refine wpAnyG_take (i := 7) (v := ?_) (by kernel_rfl) rfl (by kernel_rfl) (by kernel_rfl) (by kernel_rfl) (fun _ _ _ h => h) (Or.inl ⟨by rfl, ?_⟩) ⟨_, rfl⟩ ?_
          rotate_left
          · rintro wS ⟨yS, rfl⟩
            go_simp
            try (with_reducible rfl)
          try simp only [Act.put, List.setIfInBounds_toArray, List.set_cons_zero, List.set_cons_succ]
          refine wpAnyG_done (by kernel_rfl) (by kernel_rfl) (wpOp_plain rfl rfl ?_)
          go_simp
          clear C0 C1 Cf
          go_wp2
          go_roundw
          case rel =>
            refine ⟨tt + 1, by go_num, by omega, Or.inl (by omega), ?_, bS (bS (bT HBR.out y.b) (Nat.le_refl _) _) (Nat.le_refl _) _⟩
            exact (HTB.out.bel y.b).set (x := (NX D f tt, WW D f tt)) hf7 ht8 fun f' t' hf' ht' => by
              unfold PW
              by_cases e : f' = f ∧ t' = tt
              · obtain ⟨rfl, rfl⟩ := e
                rw [if_pos (Or.inr ⟨rfl, by omega⟩), if_pos ⟨rfl, rfl⟩]; rfl
              · by_cases e2 : f < f' ∧ t' ≤ D.m ∨ f' = f ∧ t' < tt
                · rw [if_pos (show f < f' ∧ t' ≤ D.m ∨ f' = f ∧ t' < tt + 1 by omega), if_neg e, if_pos e2]
                · rw [if_neg (show ¬ (f < f' ∧ t' ≤ D.m ∨ f' = f ∧ t' < tt + 1) by omega), if_neg e, if_neg e2]
          case measure => first | (simp [intOf]; done) | (simp [intOf]; omega)
        · have d1 : decide ((tt : Int) ≤ (D.m : Int)) = false := by simp; omega
          have HBX := Lib.hid (bT HBR.out z1.b); have HTX := Lib.hid (HTB.out.bel z1.b)
          go_wp2
          go_roundw
          case rel =>
            refine ⟨f, (f : Int) - 1, by go_num, rfl, by omega, HTX.out.congr fun f' t' hf' ht' => ?_, HBX.out⟩
            unfold PW PV
            by_cases e : f ≤ f' ∧ t' ≤ D.m
            · rw [if_pos e, if_pos (by omega)]
            · rw [if_neg e]
              split
              · exact (CH_one (by omega)).symm
              · rfl
          case measure => first | (simp [intOf]; done) | (simp [intOf]; omega)
theorem atWorst_any (D : Duct) (p q : Option Addr) (c d : Nat) (w : World) (hn : D.n ≤ 40) (hm : D.m ≤ 7) (hnm : D.n = D.m + 1) (hco : ∀ k, k < D.n → 0 ≤ D.co k ∧ D.co k ≤ 20) (hi : DuctIn w w.heap.size D p q) :
    Calls Try.prog 66 #[.agg #[.slice p D.n c, .slice q D.m d]] w fun e w' => ∃ cb, e = .returned (.pointer (some ⟨cb, 0, none⟩)) ∧ Below w.heap.size w w' ∧ TabIn w' cb (PV D 0) := by
  obtain ⟨w1, x, hw1, hb1, hz1, F0, F1⟩ := box_line w p q D.n D.m c d
  have HB := Lib.hid hb1
  have HI : Hid (∀ x : Ext w1, DuctIn x.v x.v.heap.size D p q) := fun x => (hi.bel hb1).bel x.b
  clear hb1 hz1 hi
  have HCO := Lib.hid hco; have HNM := Lib.hid hnm
  clear hco hnm
  go_enter Try.func66, Try.ntmps66
  go_wp2_with (go_at_call 84; refine (choicesOf_any D p q c d _ hn hm HNM.out HCO.out (HI.out x)).mono ?_; rintro e w' ⟨rfl, hb, ht⟩)
  go_ret
  exact ⟨_, rfl, bT HB.out (bT x.b hb), ht⟩
def areS (D : Duct) (f t : Int) : Bool := decide (0 ≤ f ∧ f < t ∧ t ≤ (D.m : Int))
theorem areSome_any (D : Duct) (p q : Option Addr) (c d : Nat) (f t : Int) (w : World) :
    Calls Try.prog 65 #[.agg #[.slice p D.n c, .slice q D.m d], .int .i64 f, .int .i64 t] w fun e w' => e = .returned (.bool (areS D f t)) ∧ Below w.heap.size w w' := by
  obtain ⟨w1, x, hw1, hb1, hz1, F0, F1⟩ := box_line w p q D.n D.m c d
  have HB := Lib.hid hb1
  clear hb1 hz1
  by_cases h1 : 0 ≤ f
  · by_cases h2 : f < t
    · have hr : decide (t ≤ (D.m : Int)) = areS D f t := by unfold areS; simp [h1, h2]
      have HR := Lib.hid hr; clear hr
      go_enter Try.func65, Try.ntmps65
      go_wp2
      go_ret
      exact ⟨ret_b HR.out, bT HB.out x.b⟩
    · have hr : false = areS D f t := by unfold areS; simp [h2]
      have HR := Lib.hid hr
      have d2 : decide (f < t) = false := by simpa using h2
      clear hr h2
      go_enter Try.func65, Try.ntmps65
      go_wp2
      go_ret
      exact ⟨ret_b HR.out, bT HB.out x.b⟩
  · have hr : false = areS D f t := by unfold areS; simp [h1]
    have HR := Lib.hid hr
    have d2 : decide (0 ≤ f) = false := by simpa using h1
    clear hr h1
    go_enter Try.func65, Try.ntmps65
    go_wp2
    go_ret
    exact ⟨ret_b HR.out, bT HB.out x.b⟩
end Go.Proofs.Ytkdlppekjjbgoaa
