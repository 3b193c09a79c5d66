/- Boxes of mouths: Paradox and Differ in the specification's words. -/
import Derived.Test.YthbicbmlbblflaaC15

set_option linter.unusedSimpArgs false

set_option linter.unusedVariables false

namespace Go.Proofs.Ythbicbmlbblflaa

open Go.RowKit Go.Shelf
attribute [local go_sem] Oper.semAt_some

set_option maxRecDepth 100000 in
set_option maxHeartbeats 8000000 in
theorem paradoxR_any (D : Bx) (p q : Option Addr) (c d : Nat) (w : World) (hn : D.n ≤ 40) (hm : D.m ≤ 40) (hi : BxIn w w.heap.size D p q) :
    Calls Try.prog 43 #[.agg #[.slice p D.n c, .slice q D.m d]] w fun e w' => e = .returned (.tuple #[.int .i64 (srV D (pdB D) 40), .int .i64 (srE D (pdB D) 40)]) ∧ Below w.heap.size w w' := by
  obtain ⟨w1, x, hw1, hb1, hz1, F0, F1⟩ := box_bx w p q D.n D.m c d
  have HB := Lib.hid hb1
  have HI : Hid (∀ x : Ext w1, BxIn x.v x.v.heap.size D p q) := fun x => (hi.bel hb1).bel x.b
  clear hb1 hz1 hi
  cases hok : D.ok with
  | false =>
    have hv : srV D (pdB D) 40 = 0 := by unfold srV; rw [hok]; rfl
    have he : srE D (pdB D) 40 = 70 := by unfold srE; rw [hok]; rfl
    rw [hv, he]
    have HC := Lib.hid (show ∀ z : Ext w1, Calls Try.prog 19 #[.agg #[.slice p D.n c, .slice q D.m d]] z.v fun e w' => e = .returned (.int .i64 70) ∧ Below z.v.heap.size z.v w' from fun z => by
      have := checkR_any D p q c d z.v hn hm (HI.out z)
      rw [hok] at this
      exact this)
    clear hv he hok
    go_enter Try.func43, Try.ntmps43
    go_wp2_with fail
    refine (quiet_x (HC.out _)).mono ?_
    rintro e w' ⟨rfl, y, rfl⟩
    go_wp2
    go_ret2
    exact ⟨rfl, bT HB.out y.b⟩
  | true =>
    have hv : srV D (pdB D) 40 = onI (fsN (pdB D) 40) := by unfold srV; rw [hok]; rfl
    have he : srE D (pdB D) 40 = noneE (fsN (pdB D) 40).isSome := by unfold srE; rw [hok]; rfl
    rw [hv, he]
    have HC := Lib.hid (show ∀ z : Ext w1, Calls Try.prog 19 #[.agg #[.slice p D.n c, .slice q D.m d]] z.v fun e w' => e = .returned (.int .i64 0) ∧ Below z.v.heap.size z.v w' from fun z => by
      have := checkR_any D p q c d z.v hn hm (HI.out z)
      rw [hok] at this
      exact this)
    have HOK := Lib.hid hok
    have hn5 := (Bx.ok_parts hok).1
    clear hv he hok
    go_enter Try.func43, Try.ntmps43
    go_wp2_with fail
    refine (quiet_x (HC.out _)).mono ?_
    rintro e w' ⟨rfl, y, rfl⟩
    go_wp2
    clear hw1
    go_loopw [5] (fun i wr => ∃ k : Nat, i = .int .i64 (k : Int) ∧ k ≤ 40 ∧ fsN (pdB D) k = none ∧ ∃ z : Ext w1, wr = z.v) (fun i _ => 40 - (intOf i).toNat)
    case atStart => exact ⟨0, rfl, by omega, rfl, y, rfl⟩
    case round =>
      obtain ⟨k, rfl, hk, hfs, z, rfl⟩ := hrel
      clear y
      have HFS := Lib.hid hfs; clear hfs
      by_cases hlt : k < 40
      · have hkm : (k : Int) < 40 := by omega
        skip
        obtain ⟨G, hG⟩ : ∃ G, k + 1 = G := ⟨_, rfl⟩
        have HGE := Lib.hid hG
        have hG40 : G ≤ 40 := by omega
        have ew : IntKind.i64.wrap ((k : Int) + 1) = (G : Int) := by rw [IntWalk.i64_in _ (by omega)]; omega
        clear hG
        go_wp2
        refine wp_region_lastE 8 (by kernel_rfl) rfl (fun ys => ?_)
        refine wpAnyG_take (i := 0) (v := ?_) (by kernel_rfl) rfl (by kernel_rfl) (by kernel_rfl) (by kernel_rfl) (fun _ _ _ h => h) (Or.inl ⟨by rfl, ?_⟩) ⟨_, rfl⟩ ?_
        rotate_left
        · rintro wS ⟨yS, rfl⟩
          go_simp
          try (with_reducible rfl)
        try simp only [Act.put, List.setIfInBounds_toArray, List.set_cons_zero, List.set_cons_succ]
        refine wpAnyG_take (i := 1) (v := ?_) (by kernel_rfl) rfl (by kernel_rfl) (by kernel_rfl) (by kernel_rfl) (fun _ _ _ h => h) (Or.inl ⟨by rfl, ?_⟩) ⟨_, rfl⟩ ?_
        rotate_left
        · rintro wS ⟨yS, rfl⟩
          go_simp
          try (with_reducible rfl)
        try simp only [Act.put, List.setIfInBounds_toArray, List.set_cons_zero, List.set_cons_succ]
        refine wpAnyG_take (i := 3) (v := ?_) (by kernel_rfl) rfl (by kernel_rfl) (by kernel_rfl) (by kernel_rfl) (fun _ _ _ h => h) (Or.inl ⟨by rfl, ?_⟩) ⟨_, rfl⟩ ?_
        rotate_left
        · rintro wS ⟨yS, rfl⟩
          go_simp
          try (with_reducible rfl)
        try simp only [Act.put, List.setIfInBounds_toArray, List.set_cons_zero, List.set_cons_succ]
        refine wpAnyG_take (i := 4) (v := ?_) (by kernel_rfl) rfl (by kernel_rfl) (by kernel_rfl) (by kernel_rfl) (fun _ _ _ h => h) (Or.inl ⟨by rfl, ?_⟩) ⟨_, rfl⟩ ?_
        rotate_left
        · rintro wS ⟨yS, rfl⟩
          go_simp
          try (with_reducible rfl)
        try simp only [Act.put, List.setIfInBounds_toArray, List.set_cons_zero, List.set_cons_succ]
        refine wpAnyG_take (i := 5) (v := ?_) (by kernel_rfl) rfl (by kernel_rfl) (by kernel_rfl) (by kernel_rfl) (fun _ _ _ h => h) (Or.inl ⟨by rfl, ?_⟩) ⟨_, rfl⟩ ?_
        rotate_left
        · rintro wS ⟨yS, rfl⟩
          go_simp
          try (with_reducible rfl)
        try simp only [Act.put, List.setIfInBounds_toArray, List.set_cons_zero, List.set_cons_succ]
        refine wpAnyG_one (i := 2) (by kernel_rfl) (by decide) (wpOp_plain rfl rfl ?_)
        go_simp
        go_at_call 79
        refine (remOf_any D p q c d k _ HOK.out (by omega) (HI.out _)).mono ?_
        rintro e w' ⟨ya, ca, rfl, hca⟩
        obtain ⟨za, hza⟩ : ∃ zz : Ext w1, w' = zz.v := ⟨⟨_, bT ys.b hca.below⟩, rfl⟩
        have hna := hca.num
        rw [hza] at hna ⊢
        have HNA : Hid (NumIn za.v za.v.heap.size D.n (RM D k) ya) := hna
        clear hca hna hza
        refine ⟨⟨_, rfl⟩, ?_⟩
        try simp only [Act.put, List.setIfInBounds_toArray, List.set_cons_zero, List.set_cons_succ]
        refine wpAnyG_one (i := 6) (by kernel_rfl) (by decide) (wpOp_plain rfl rfl ?_)
        go_simp
        go_at_call 79
        refine (remOf_any D p q c d G _ HOK.out hG40 (HI.out _)).mono ?_
        rintro e w' ⟨yb, cb, rfl, hcb⟩
        have HNA2 := Lib.hid (HNA.out.bel hcb.below)
        obtain ⟨zb, hzb⟩ : ∃ zz : Ext w1, w' = zz.v := ⟨⟨_, bT za.b hcb.below⟩, rfl⟩
        have hnb := hcb.num
        rw [hzb] at hnb HNA2 ⊢
        have HNB : Hid (NumIn zb.v zb.v.heap.size D.n (RM D G) yb) := hnb
        clear hcb hnb hzb HNA
        refine ⟨⟨_, rfl⟩, ?_⟩
        try simp only [Act.put, List.setIfInBounds_toArray, List.set_cons_zero, List.set_cons_succ]
        refine wpAnyG_take (i := 7) (v := ?_) (by kernel_rfl) rfl (by kernel_rfl) (by kernel_rfl) (by kernel_rfl) (fun _ _ _ h => h) (Or.inl ⟨by rfl, ?_⟩) ⟨_, rfl⟩ ?_
        rotate_left
        · rintro wS ⟨yS, rfl⟩
          go_simp
          try (with_reducible rfl)
        try simp only [Act.put, List.setIfInBounds_toArray, List.set_cons_zero, List.set_cons_succ]
        refine wpAnyG_done (by kernel_rfl) (by kernel_rfl) (wpOp_plain rfl rfl ?_)
        go_simp
        have HX1 : Hid (∀ z : Ext zb.v, NumIn z.v z.v.heap.size D.n (RM D k) ya) := fun z => HNA2.out.bel z.b
        have HX2 : Hid (∀ z : Ext zb.v, NumIn z.v z.v.heap.size D.n (RM D G) yb) := fun z => HNB.out.bel z.b
        have HZB : Hid (∀ z : Ext zb.v, Below w1.heap.size w1 z.v) := fun z => bT zb.b z.b
        obtain ⟨z0, hz0⟩ := rebase zb.v
        rw [hz0]
        clear hz0 HNA2 HNB
        go_wp2
        go_loopw [8] (fun i wr => ∃ k2 : Nat, i = .int .i64 (k2 : Int) ∧ k2 ≤ D.n ∧ pdA D k k2 = false ∧ ∃ z : Ext zb.v, wr = z.v) (fun i _ => D.n - (intOf i).toNat)
        case atStart => exact ⟨0, rfl, Nat.zero_le _, rfl, z0, rfl⟩
        case round =>
          obtain ⟨k2, rfl, hk2, hp, zz, rfl⟩ := hrel
          have HPK := Lib.hid hp; clear hp
          by_cases hlt2 : k2 < D.n
          · obtain ⟨b1, o1, rfl, _, _⟩ := HX1.out zz (by omega)
            obtain ⟨b2, o2, rfl, _, _⟩ := HX2.out zz (by omega)
            have E0 : ∀ z : Ext zb.v, z.v.cell? ⟨b1, o1 + k2, none⟩ = some (.int .i64 (RM D k k2)) := fun z => ((HX1.out z).cell hlt2).2
            have E1 : ∀ z : Ext zb.v, z.v.cell? ⟨b2, o2 + k2, none⟩ = some (.int .i64 (RM D G k2)) := fun z => ((HX2.out z).cell hlt2).2
            have hkm2 : (k2 : Int) < (D.n : Int) := by omega
            cases hd : decide (RM D G k2 < RM D k k2) with
            | true =>
              have HR := Lib.hid (show fsN (pdB D) 40 = some k from fsN_hit HFS.out (pdA_hit (by rw [HGE.out]; exact hd) hlt2) hlt)
              go_wp2
              refine quiet_e (by kernel_rfl) (by kernel_rfl) ?_
              repeat (first | go_big_quiet_step (fail) | quiet_step (fail))
              refine wpQuiet_nil ?_
              intro w6 hw6
              obtain ⟨y2, rfl⟩ := hw6
              go_wp2
              go_ret2
              exact ⟨by rw [HR.out]; rfl, bT HB.out (HZB.out y2)⟩
            | false =>
              have HF := Lib.hid (show pdA D k (k2 + 1) = false from pdA_miss HPK.out (by rw [HGE.out]; exact hd))
              go_wp2
              refine quiet_e (by kernel_rfl) (by kernel_rfl) ?_
              repeat (first | go_big_quiet_step (fail) | quiet_step (fail))
              refine wpQuiet_nil ?_
              intro w6 hw6
              obtain ⟨y2, rfl⟩ := hw6
              go_wp2
              go_roundw
              case rel => exact ⟨k2 + 1, by go_num, hlt2, HF.out, y2, rfl⟩
              case measure => first | (simp [intOf]; done) | (simp [intOf]; omega)
          · have HF := Lib.hid (show pdA D k D.n = false from by rw [← show k2 = D.n by omega]; exact HPK.out)
            have HR := Lib.hid (show fsN (pdB D) (k + 1) = none from fsN_miss HFS.out HF.out)
            have j2 : decide ((k2 : Int) < (D.n : Int)) = false := by simp; omega
            go_wp2
            go_roundw
            case rel => exact ⟨G, by first | (rw [← HGE.out]; done) | (rw [← HGE.out]; go_num), by omega, by rw [← HGE.out]; exact HR.out, ⟨zz.v, HZB.out zz⟩, rfl⟩
            case measure => have hge := HGE.out; first | (simp [intOf]; done) | (simp [intOf]; omega)
      · have HR := Lib.hid (show fsN (pdB D) 40 = none from by rw [← show k = 40 by omega]; exact HFS.out)
        have j : decide ((k : Int) < 40) = false := by simp; omega
        skip
        go_wp2
        go_ret2
        exact ⟨by rw [HR.out]; rfl, bT HB.out z.b⟩
set_option maxRecDepth 100000 in
set_option maxHeartbeats 8000000 in
theorem differR_any (D : Bx) (p q : Option Addr) (c d : Nat) (w : World) (hn : D.n ≤ 40) (hm : D.m ≤ 40) (hi : BxIn w w.heap.size D p q) :
    Calls Try.prog 45 #[.agg #[.slice p D.n c, .slice q D.m d]] w fun e w' => e = .returned (.tuple #[.int .i64 (srV D (dfB D) 41), .int .i64 (srE D (dfB D) 41)]) ∧ Below w.heap.size w w' := by
  obtain ⟨w1, x, hw1, hb1, hz1, F0, F1⟩ := box_bx w p q D.n D.m c d
  have HB := Lib.hid hb1
  have HI : Hid (∀ x : Ext w1, BxIn x.v x.v.heap.size D p q) := fun x => (hi.bel hb1).bel x.b
  clear hb1 hz1 hi
  cases hok : D.ok with
  | false =>
    have hv : srV D (dfB D) 41 = 0 := by unfold srV; rw [hok]; rfl
    have he : srE D (dfB D) 41 = 70 := by unfold srE; rw [hok]; rfl
    rw [hv, he]
    have HC := Lib.hid (show ∀ z : Ext w1, Calls Try.prog 19 #[.agg #[.slice p D.n c, .slice q D.m d]] z.v fun e w' => e = .returned (.int .i64 70) ∧ Below z.v.heap.size z.v w' from fun z => by
      have := checkR_any D p q c d z.v hn hm (HI.out z)
      rw [hok] at this
      exact this)
    clear hv he hok
    go_enter Try.func45, Try.ntmps45
    go_wp2_with fail
    refine (quiet_x (HC.out _)).mono ?_
    rintro e w' ⟨rfl, y, rfl⟩
    go_wp2
    go_ret2
    exact ⟨rfl, bT HB.out y.b⟩
  | true =>
    have hv : srV D (dfB D) 41 = onI (fsN (dfB D) 41) := by unfold srV; rw [hok]; rfl
    have he : srE D (dfB D) 41 = noneE (fsN (dfB D) 41).isSome := by unfold srE; rw [hok]; rfl
    rw [hv, he]
    have HC := Lib.hid (show ∀ z : Ext w1, Calls Try.prog 19 #[.agg #[.slice p D.n c, .slice q D.m d]] z.v fun e w' => e = .returned (.int .i64 0) ∧ Below z.v.heap.size z.v w' from fun z => by
      have := checkR_any D p q c d z.v hn hm (HI.out z)
      rw [hok] at this
      exact this)
    have HOK := Lib.hid hok
    have hn5 := (Bx.ok_parts hok).1
    clear hv he hok
    go_enter Try.func45, Try.ntmps45
    go_wp2_with fail
    refine (quiet_x (HC.out _)).mono ?_
    rintro e w' ⟨rfl, y, rfl⟩
    go_wp2
    clear hw1
    go_loopw [5] (fun i wr => ∃ k : Nat, i = .int .i64 (k : Int) ∧ k ≤ 41 ∧ fsN (dfB D) k = none ∧ ∃ z : Ext w1, wr = z.v) (fun i _ => 41 - (intOf i).toNat)
    case atStart => exact ⟨0, rfl, by omega, rfl, y, rfl⟩
    case round =>
      obtain ⟨k, rfl, hk, hfs, z, rfl⟩ := hrel
      clear y
      have HFS := Lib.hid hfs; clear hfs
      by_cases hlt : k < 41
      · have hkm : (k : Int) < 41 := by omega
        have hkle : (k : Int) ≤ 40 := by omega
        have HSG := Lib.hid (show ∀ (V : World) (a b : Option Addr) (ca cb : Nat), NumIn V V.heap.size D.n (gv D k) a → NumIn V V.heap.size D.n (RM D k) b → Calls Try.prog 26 #[.slice a D.n ca, .slice b D.n cb] V fun e w' => e = .returned (.bool (!(dfB D k))) ∧ Below V.heap.size V w' from fun V a b ca cb h1 h2 => by
          have := sameG_any D.n (gv D k) (RM D k) a b ca cb V (by omega) h1 h2
          rw [show allN (same1 (gv D k) (RM D k)) D.n = !(dfB D k) from by unfold dfB; rw [Bool.not_not]] at this
          exact this)
        go_wp2
        refine wp_region_lastE 7 (by kernel_rfl) rfl (fun ys => ?_)
        refine wpAnyG_take (i := 0) (v := ?_) (by kernel_rfl) rfl (by kernel_rfl) (by kernel_rfl) (by kernel_rfl) (fun _ _ _ h => h) (Or.inl ⟨by rfl, ?_⟩) ⟨_, rfl⟩ ?_
        rotate_left
        · rintro wS ⟨yS, rfl⟩
          go_simp
          try (with_reducible rfl)
        try simp only [Act.put, List.setIfInBounds_toArray, List.set_cons_zero, List.set_cons_succ]
        refine wpAnyG_take (i := 1) (v := ?_) (by kernel_rfl) rfl (by kernel_rfl) (by kernel_rfl) (by kernel_rfl) (fun _ _ _ h => h) (Or.inl ⟨by rfl, ?_⟩) ⟨_, rfl⟩ ?_
        rotate_left
        · rintro wS ⟨yS, rfl⟩
          go_simp
          try (with_reducible rfl)
        try simp only [Act.put, List.setIfInBounds_toArray, List.set_cons_zero, List.set_cons_succ]
        refine wpAnyG_take (i := 3) (v := ?_) (by kernel_rfl) rfl (by kernel_rfl) (by kernel_rfl) (by kernel_rfl) (fun _ _ _ h => h) (Or.inl ⟨by rfl, ?_⟩) ⟨_, rfl⟩ ?_
        rotate_left
        · rintro wS ⟨yS, rfl⟩
          go_simp
          try (with_reducible rfl)
        try simp only [Act.put, List.setIfInBounds_toArray, List.set_cons_zero, List.set_cons_succ]
        refine wpAnyG_take (i := 4) (v := ?_) (by kernel_rfl) rfl (by kernel_rfl) (by kernel_rfl) (by kernel_rfl) (fun _ _ _ h => h) (Or.inl ⟨by rfl, ?_⟩) ⟨_, rfl⟩ ?_
        rotate_left
        · rintro wS ⟨yS, rfl⟩
          go_simp
          try (with_reducible rfl)
        try simp only [Act.put, List.setIfInBounds_toArray, List.set_cons_zero, List.set_cons_succ]
        refine wpAnyG_one (i := 2) (by kernel_rfl) (by decide) (wpOp_plain rfl rfl ?_)
        go_simp
        go_at_call 66
        refine (gaugesOf_any D p q c d k _ HOK.out (by omega) (HI.out _)).mono ?_
        rintro e w' ⟨ya, ca, rfl, hca⟩
        obtain ⟨za, hza⟩ : ∃ zz : Ext w1, w' = zz.v := ⟨⟨_, bT ys.b hca.below⟩, rfl⟩
        have hna := hca.num
        rw [hza] at hna ⊢
        have HNA : Hid (NumIn za.v za.v.heap.size D.n (gv D k) ya) := hna
        clear hca hna hza
        refine ⟨⟨_, rfl⟩, ?_⟩
        try simp only [Act.put, List.setIfInBounds_toArray, List.set_cons_zero, List.set_cons_succ]
        refine wpAnyG_one (i := 5) (by kernel_rfl) (by decide) (wpOp_plain rfl rfl ?_)
        go_simp
        go_at_call 79
        refine (remOf_any D p q c d k _ HOK.out (by omega) (HI.out _)).mono ?_
        rintro e w' ⟨yb, cb, rfl, hcb⟩
        have HNA2 := Lib.hid (HNA.out.bel hcb.below)
        obtain ⟨zb, hzb⟩ : ∃ zz : Ext w1, w' = zz.v := ⟨⟨_, bT za.b hcb.below⟩, rfl⟩
        have hnb := hcb.num
        rw [hzb] at hnb HNA2 ⊢
        have HNB : Hid (NumIn zb.v zb.v.heap.size D.n (RM D k) yb) := hnb
        clear hcb hnb hzb HNA
        refine ⟨⟨_, rfl⟩, ?_⟩
        try simp only [Act.put, List.setIfInBounds_toArray, List.set_cons_zero, List.set_cons_succ]
        cases hpb : dfB D k with
        | true =>
          have HR := Lib.hid (show fsN (dfB D) 41 = some k from fsN_hit HFS.out hpb hlt)
          rw [hpb] at HSG
          clear hpb
          refine wpAnyG_one (i := 6) (by kernel_rfl) (by decide) (wpOp_plain rfl rfl ?_)
          go_simp
          go_at_call 26
          refine (HSG.out _ _ _ _ _ HNA2.out HNB.out).mono ?_
          rintro e w' ⟨rfl, hbs⟩
          obtain ⟨zc, rfl⟩ : ∃ zz : Ext w1, w' = zz.v := ⟨⟨_, bT zb.b hbs⟩, rfl⟩
          clear hbs
          refine ⟨⟨_, rfl⟩, ?_⟩
          try simp only [Act.put, List.setIfInBounds_toArray, List.set_cons_zero, List.set_cons_succ]
          refine wpAnyG_done (by kernel_rfl) (by kernel_rfl) (wpOp_plain rfl rfl ?_)
          go_simp
          go_wp2
          go_ret2
          exact ⟨by rw [HR.out]; rfl, bT HB.out zc.b⟩
        | false =>
          have HR := Lib.hid (show fsN (dfB D) (k + 1) = none from fsN_miss HFS.out hpb)
          rw [hpb] at HSG
          clear hpb
          refine wpAnyG_one (i := 6) (by kernel_rfl) (by decide) (wpOp_plain rfl rfl ?_)
          go_simp
          go_at_call 26
          refine (HSG.out _ _ _ _ _ HNA2.out HNB.out).mono ?_
          rintro e w' ⟨rfl, hbs⟩
          obtain ⟨zc, rfl⟩ : ∃ zz : Ext w1, w' = zz.v := ⟨⟨_, bT zb.b hbs⟩, rfl⟩
          clear hbs
          refine ⟨⟨_, rfl⟩, ?_⟩
          try simp only [Act.put, List.setIfInBounds_toArray, List.set_cons_zero, List.set_cons_succ]
          refine wpAnyG_done (by kernel_rfl) (by kernel_rfl) (wpOp_plain rfl rfl ?_)
          go_simp
          go_wp2
          go_roundw
          case rel => exact ⟨k + 1, by go_num, hlt, HR.out, zc, rfl⟩
          case measure => first | (simp [intOf]; done) | (simp [intOf]; omega)
      · have HR := Lib.hid (show fsN (dfB D) 41 = none from by rw [← show k = 41 by omega]; exact HFS.out)
        have j : decide ((k : Int) ≤ 40) = false := by simp; omega
        have j2 : ¬ (k : Int) ≤ 40 := by omega
        go_wp2
        go_ret2
        exact ⟨by rw [HR.out]; rfl, bT HB.out z.b⟩
end Go.Proofs.Ythbicbmlbblflaa
