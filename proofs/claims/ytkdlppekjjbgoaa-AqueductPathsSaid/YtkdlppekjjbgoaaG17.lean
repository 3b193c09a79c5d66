/- Path and Paid, of the program and of the specification. -/
import Derived.Test.YtkdlppekjjbgoaaG16

set_option linter.unusedSimpArgs false

set_option linter.unusedVariables false

namespace Go.Proofs.Ytkdlppekjjbgoaa

open Go.RowKit

set_option maxRecDepth 100000 in
set_option maxHeartbeats 4000000 in
theorem pathP_ok (D : Duct) (p q : Option Addr) (c d : Nat) (s : Nat) (w : World) (hs : s < D.m) (hok : D.ok = true) (hi : DuctIn w w.heap.size D p q) :
    Calls Try.prog 30 #[.agg #[.slice p D.n c, .slice q D.m d], .int .i64 (s : Int)] w fun e w' => ∃ y c', e = .returned (.tuple #[.slice y (path D s).length c', .int .i64 0]) ∧ Below w.heap.size w w' ∧ NumIn w' w'.heap.size (path D s).length (atL (path D s)) y ∧ (path D s).length ≤ c' := by
  have hm7 := (D.ok_parts hok).1
  have hnm := (D.ok_parts hok).2.1
  have hn : D.n ≤ 40 := by omega
  have his : isSt D (s : Int) = true := within_tt (by omega) (by omega)
  have HOK := Lib.hid hok; have HS0 := Lib.hid hs
  obtain ⟨w1, x1, hw1, hb1, hz1, F0, F1⟩ := box_line w p q D.n D.m c d
  have HB := Lib.hid hb1
  have HI : Hid (∀ x : Ext w1, DuctIn x.v x.v.heap.size D p q) := fun x => (hi.bel hb1).bel x.b
  clear hb1 hz1 hi
  have HS := Lib.hid (show ∀ V : World, Calls Try.prog 63 #[.agg #[.slice p D.n c, .slice q D.m d], .int .i64 (s : Int)] V fun e w' => e = .returned (.bool true) ∧ Below V.heap.size V w' from fun V => by
    have := isStretch_any D p q c d (s : Int) V
    rw [his] at this
    exact this)
  have HC := Lib.hid (show ∀ V : World, DuctIn V V.heap.size D p q → Calls Try.prog 57 #[.agg #[.slice p D.n c, .slice q D.m d], .bool true] V fun e w' => e = .returned (.int .i64 0) ∧ Below V.heap.size V w' from fun V h => by
    have := check_any D p q c d true V hn (by omega) h
    rw [hok] at this
    exact this)
  clear hok hnm his hs
  go_enter Try.func30, Try.ntmps30
  go_wp2
  refine quiet_e (by kernel_rfl) (by kernel_rfl) ?_
  repeat (first | go_big_quiet_step ((first | (go_at_call 63; exact quiet_x (HS.out _)) | (go_at_call 57; exact quiet_x (HC.out _ (HI.out _))))) | quiet_step ((first | (go_at_call 63; exact quiet_x (HS.out _)) | (go_at_call 57; exact quiet_x (HC.out _ (HI.out _))))))
  refine wpQuiet_nil ?_
  intro w6 hw6
  obtain ⟨y, rfl⟩ := hw6
  go_wp2_with fail
  refine (pathTo_any D p q c d s _ HS0.out HOK.out (HI.out _)).mono ?_
  rintro e w' ⟨yl, cl, rfl, hb, hnum, hcap⟩
  have HN := Lib.hid hnum; have HCAP := Lib.hid hcap
  obtain ⟨y4, rfl⟩ : ∃ z : Ext w1, w' = z.v := ⟨⟨w', bT (Ext.b _) hb⟩, rfl⟩
  clear hb hnum hcap
  go_wp2
  refine bodyPost_ret (v := .tuple #[.slice yl (path D s).length cl, .int .i64 0]) (by simp [results, Try.f30, go_sem]) rfl ⟨yl, cl, rfl, bT HB.out y4.b, HN.out, HCAP.out⟩
set_option maxRecDepth 100000 in
set_option maxHeartbeats 4000000 in
theorem pathP_er (D : Duct) (p q : Option Addr) (c d : Nat) (k er : Int) (w : World) (hn : D.n ≤ 40) (hm : D.m ≤ 40) (he : chkE D.ok (isSt D k) = er) (h0 : er ≠ 0) (hi : DuctIn w w.heap.size D p q) :
    Calls Try.prog 30 #[.agg #[.slice p D.n c, .slice q D.m d], .int .i64 k] w fun e w' => e = .returned (.tuple #[.slice none 0 0, .int .i64 er]) ∧ Below w.heap.size w w' := by
  obtain ⟨w1, x1, hw1, hb1, hz1, F0, F1⟩ := box_line w p q D.n D.m c d
  have HB := Lib.hid hb1
  have HI : Hid (∀ x : Ext w1, DuctIn x.v x.v.heap.size D p q) := fun x => (hi.bel hb1).bel x.b
  clear hb1 hz1 hi
  obtain ⟨is, his⟩ : ∃ z, isSt D k = z := ⟨_, rfl⟩
  rw [his] at he
  have HS := Lib.hid (show ∀ V : World, Calls Try.prog 63 #[.agg #[.slice p D.n c, .slice q D.m d], .int .i64 k] V fun e w' => e = .returned (.bool is) ∧ Below V.heap.size V w' from fun V => by
    have := isStretch_any D p q c d k V
    rw [his] at this
    exact this)
  have HC := Lib.hid (show ∀ V : World, DuctIn V V.heap.size D p q → Calls Try.prog 57 #[.agg #[.slice p D.n c, .slice q D.m d], .bool is] V fun e w' => e = .returned (.int .i64 er) ∧ Below V.heap.size V w' from fun V h => by
    have := check_any D p q c d is V hn hm h
    rw [he] at this
    exact this)
  clear he his
  go_enter Try.func30, Try.ntmps30
  go_wp2
  refine quiet_e (by kernel_rfl) (by kernel_rfl) ?_
  repeat (first | go_big_quiet_step ((first | (go_at_call 63; exact quiet_x (HS.out _)) | (go_at_call 57; exact quiet_x (HC.out _ (HI.out _))))) | quiet_step ((first | (go_at_call 63; exact quiet_x (HS.out _)) | (go_at_call 57; exact quiet_x (HC.out _ (HI.out _))))))
  refine wpQuiet_nil ?_
  intro w6 hw6
  obtain ⟨y, rfl⟩ := hw6
  go_wp2
  refine bodyPost_ret (v := .tuple #[.slice none 0 0, .int .i64 er]) (by simp [results, Try.f30, go_sem]) rfl ⟨rfl, ?_⟩
  exact bT HB.out y.b
set_option maxRecDepth 100000 in
set_option maxHeartbeats 4000000 in
theorem paidP_ok (D : Duct) (p q : Option Addr) (c d : Nat) (s : Nat) (w : World) (hs : s < D.m) (hok : D.ok = true) (hi : DuctIn w w.heap.size D p q) :
    Calls Try.prog 29 #[.agg #[.slice p D.n c, .slice q D.m d], .int .i64 (s : Int)] w fun e w' => e = .returned (.tuple #[.int .i64 (paid D s), .int .i64 0]) ∧ Below w.heap.size w w' := by
  have hm7 := (D.ok_parts hok).1
  have hnm := (D.ok_parts hok).2.1
  have hn : D.n ≤ 40 := by omega
  have his : isSt D (s : Int) = true := within_tt (by omega) (by omega)
  have HOK := Lib.hid hok; have HS0 := Lib.hid hs
  obtain ⟨pb, po, rfl, _, _⟩ := hi.pt (by omega)
  obtain ⟨w1, x1, hw1, hb1, hz1, F0, F1⟩ := box_line w (some ⟨pb, po, none⟩) q D.n D.m c d
  have HB := Lib.hid hb1
  have HI : Hid (∀ x : Ext w1, DuctIn x.v x.v.heap.size D (some ⟨pb, po, none⟩) q) := fun x => (hi.bel hb1).bel x.b
  clear hb1 hz1 hi
  have HS := Lib.hid (show ∀ V : World, Calls Try.prog 63 #[.agg #[.slice (some ⟨pb, po, none⟩) D.n c, .slice q D.m d], .int .i64 (s : Int)] V fun e w' => e = .returned (.bool true) ∧ Below V.heap.size V w' from fun V => by
    have := isStretch_any D (some ⟨pb, po, none⟩) q c d (s : Int) V
    rw [his] at this
    exact this)
  have HC := Lib.hid (show ∀ V : World, DuctIn V V.heap.size D (some ⟨pb, po, none⟩) q → Calls Try.prog 57 #[.agg #[.slice (some ⟨pb, po, none⟩) D.n c, .slice q D.m d], .bool true] V fun e w' => e = .returned (.int .i64 0) ∧ Below V.heap.size V w' from fun V h => by
    have := check_any D (some ⟨pb, po, none⟩) q c d true V hn (by omega) h
    rw [hok] at this
    exact this)
  have HCO := Lib.hid (co_bd hok)
  have hin : ∀ x, x ∈ path D s → x < D.n := fun x hx => by have := pL_in hx; omega
  have HIN := Lib.hid hin
  have HLEN := Lib.hid (path_len (s := s) hm7)
  clear hok hnm his hs hin
  go_enter Try.func29, Try.ntmps29
  go_wp2
  refine quiet_e (by kernel_rfl) (by kernel_rfl) ?_
  repeat (first | go_big_quiet_step ((first | (go_at_call 63; exact quiet_x (HS.out _)) | (go_at_call 57; exact quiet_x (HC.out _ (HI.out _))))) | quiet_step ((first | (go_at_call 63; exact quiet_x (HS.out _)) | (go_at_call 57; exact quiet_x (HC.out _ (HI.out _))))))
  refine wpQuiet_nil ?_
  intro w6 hw6
  obtain ⟨y, rfl⟩ := hw6
  go_wp2_with fail
  refine (pathTo_any D (some ⟨pb, po, none⟩) q c d s _ HS0.out HOK.out (HI.out _)).mono ?_
  rintro e w' ⟨yl, cl, rfl, hb, hnum, _⟩
  have HN := Lib.hid hnum
  obtain ⟨y4, rfl⟩ : ∃ z : Ext w1, w' = z.v := ⟨⟨w', bT (Ext.b _) hb⟩, rfl⟩
  clear hb hnum
  obtain ⟨l, hl⟩ : ∃ l, path D s = l := ⟨_, rfl⟩
  obtain ⟨N, hN⟩ : ∃ N, l.length = N := ⟨_, rfl⟩
  have HL := Lib.hid hl; have HNN := Lib.hid hN
  rw [hl] at HN HIN HLEN ⊢
  rw [hN] at HN HLEN ⊢
  clear hl hN
  go_wp2_with fail
  go_loopw [7, 22] (fun b i wr => ∃ k : Nat, i = .int .i64 (k : Int) ∧ b = .int .i64 (csL D (l.take k)) ∧ k ≤ N ∧ ∃ z : Ext y4.v, wr = z.v) (fun _ i _ => N - (intOf i).toNat)
  case atStart => exact ⟨0, rfl, rfl, Nat.zero_le _, ⟨y4.v, Below.refl _ _⟩, rfl⟩
  case round =>
    obtain ⟨k, rfl, rfl, hk, z, rfl⟩ := hrel
    have n7 : N ≤ 6 := HLEN.out
    by_cases hlt : k < N
    · have d1 : decide ((k : Int) < (N : Int)) = true := by simp; omega
      have jk : (k : Int) < (N : Int) := by omega
      obtain ⟨u, hu⟩ : ∃ u, l.getD k 0 = u := ⟨_, rfl⟩
      have hkl : k < l.length := by rw [HNN.out]; exact hlt
      have hun : u < D.n := by rw [← hu]; exact HIN.out _ (atL_mem hkl)
      have hst := csL_take (D := D) hkl
      rw [hu] at hst
      have hb1 := csL_bd (D := D) HCO.out (l := l.take k) (fun x hx => HIN.out x (List.mem_of_mem_take hx))
      have hb2 := HCO.out u hun
      rw [List.length_take] at hb1
      obtain ⟨S, hS⟩ : ∃ e, csL D (l.take k) = e := ⟨_, rfl⟩
      obtain ⟨S2, hS2⟩ : ∃ e, csL D (l.take (k + 1)) = e := ⟨_, rfl⟩
      rw [hS, hS2] at hst
      rw [hS] at hb1 ⊢
      have hmn : min k l.length ≤ 6 := by omega
      have hwr : IntKind.i64.wrap (S + D.co u) = S2 := by rw [← hst]; exact IntWalk.i64_in _ (by omega)
      have HS2 := Lib.hid hS2
      obtain ⟨lb, lo, rfl, _, hcl⟩ := HN.out (by omega)
      have CL : ∀ z : Ext y4.v, z.v.cell? ⟨lb, lo + k, none⟩ = some (.int .i64 (u : Int)) := fun z => by
        have := ((HN.out.bel z.b).cell hlt).2
        rw [this]; unfold atL; rw [hu]
      have CP2 : ∀ z : Ext y4.v, z.v.cell? ⟨pb, po + u * 3 + 2, none⟩ = some (.int .i64 (D.co u)) := fun z => (HI.out (z.up y4.b)).co' hun
      have L0 : ∀ z : Ext y4.v, z.v.cell? ⟨w.heap.size, 0, none⟩ = some (.slice (some ⟨pb, po, none⟩) D.n c) := fun z => F0 (z.up y4.b)
      have ju : (u : Int) < (D.n : Int) := by omega
      clear hst hb1 hb2 hS hS2 hcl hu hkl F0 F1 hmn
      go_wp2
      go_roundw
      case rel => exact ⟨k + 1, by go_num, by rw [HS2.out], hlt, z, rfl⟩
      case measure => first | (simp [intOf]; done) | (simp [intOf]; omega)
    · obtain rfl : k = N := by omega
      have d1 : decide ((k : Int) < (k : Int)) = false := by simp
      have HP : Hid (csL D (l.take k) = paid D s) := by
        show _ = csL D (path D s)
        rw [HL.out, List.take_of_length_le (by rw [HNN.out]; exact Nat.le_refl _)]
      clear hk hlt
      go_wp2
      refine bodyPost_ret (v := .tuple #[.int .i64 (csL D (l.take k)), .int .i64 0]) (by simp [results, Try.f29, go_sem]) rfl ⟨by rw [HP.out], bT HB.out (bT y4.b z.b)⟩
set_option maxRecDepth 100000 in
set_option maxHeartbeats 4000000 in
theorem paidP_er (D : Duct) (p q : Option Addr) (c d : Nat) (k er : Int) (w : World) (hn : D.n ≤ 40) (hm : D.m ≤ 40) (he : chkE D.ok (isSt D k) = er) (h0 : er ≠ 0) (hi : DuctIn w w.heap.size D p q) :
    Calls Try.prog 29 #[.agg #[.slice p D.n c, .slice q D.m d], .int .i64 k] w fun e w' => e = .returned (.tuple #[.int .i64 0, .int .i64 er]) ∧ Below w.heap.size w w' := by
  obtain ⟨w1, x1, hw1, hb1, hz1, F0, F1⟩ := box_line w p q D.n D.m c d
  have HB := Lib.hid hb1
  have HI : Hid (∀ x : Ext w1, DuctIn x.v x.v.heap.size D p q) := fun x => (hi.bel hb1).bel x.b
  clear hb1 hz1 hi
  obtain ⟨is, his⟩ : ∃ z, isSt D k = z := ⟨_, rfl⟩
  rw [his] at he
  have HS := Lib.hid (show ∀ V : World, Calls Try.prog 63 #[.agg #[.slice p D.n c, .slice q D.m d], .int .i64 k] V fun e w' => e = .returned (.bool is) ∧ Below V.heap.size V w' from fun V => by
    have := isStretch_any D p q c d k V
    rw [his] at this
    exact this)
  have HC := Lib.hid (show ∀ V : World, DuctIn V V.heap.size D p q → Calls Try.prog 57 #[.agg #[.slice p D.n c, .slice q D.m d], .bool is] V fun e w' => e = .returned (.int .i64 er) ∧ Below V.heap.size V w' from fun V h => by
    have := check_any D p q c d is V hn hm h
    rw [he] at this
    exact this)
  clear he his
  go_enter Try.func29, Try.ntmps29
  go_wp2
  refine quiet_e (by kernel_rfl) (by kernel_rfl) ?_
  repeat (first | go_big_quiet_step ((first | (go_at_call 63; exact quiet_x (HS.out _)) | (go_at_call 57; exact quiet_x (HC.out _ (HI.out _))))) | quiet_step ((first | (go_at_call 63; exact quiet_x (HS.out _)) | (go_at_call 57; exact quiet_x (HC.out _ (HI.out _))))))
  refine wpQuiet_nil ?_
  intro w6 hw6
  obtain ⟨y, rfl⟩ := hw6
  go_wp2
  refine bodyPost_ret (v := .tuple #[.int .i64 0, .int .i64 er]) (by simp [results, Try.f29, go_sem]) rfl ⟨rfl, ?_⟩
  exact bT HB.out y.b
set_option maxRecDepth 100000 in
set_option maxHeartbeats 4000000 in
theorem costOf_any (D : Duct) (p q : Option Addr) (c d N lc : Nat) (l : List Nat) (lp : Option Addr) (w : World) (hN : l.length = N) (hN6 : N ≤ 40) (hin : ∀ x, x ∈ l → x < D.n) (hco : ∀ k, k < D.n → 0 ≤ D.co k ∧ D.co k ≤ 20) (hl : NumIn w w.heap.size N (atL l) lp) (hi : DuctIn w w.heap.size D p q) :
    Calls Try.prog 34 #[.agg #[.slice p D.n c, .slice q D.m d], .slice lp N lc] w fun e w' => e = .returned (.int .i64 (csL D l)) ∧ Below w.heap.size w w' := by
  obtain ⟨w1, x1, e1, hb1, hl1⟩ := mk_line w p q D.n D.m c d
  have HB := Lib.hid hb1
  have HI := Lib.hid (hi.bel hb1); have HN := Lib.hid (hl.bel hb1)
  have HL := Lib.hid hl1
  have HCO := Lib.hid hco; have HIN := Lib.hid hin; have HNN := Lib.hid hN
  clear hb1 hl1 hi hl hco hin hN
  go_enter Try.func34, Try.ntmps34
  go_wp2
  go_loopw [5, 6] (fun b i wr => ∃ k : Nat, i = .int .i64 (k : Int) ∧ b = .int .i64 (csL D (l.take k)) ∧ k ≤ N ∧ ∃ z : Ext w1, wr = z.v) (fun _ i _ => N - (intOf i).toNat)
  case atStart => exact ⟨0, rfl, rfl, Nat.zero_le _, x1, rfl⟩
  case round =>
    obtain ⟨k, rfl, rfl, hk, z, rfl⟩ := hrel
    clear x1 e1
    by_cases hlt : k < N
    · have d1 : decide ((k : Int) < (N : Int)) = true := by simp; omega
      have jk : (k : Int) < (N : Int) := by omega
      obtain ⟨u, hu⟩ : ∃ u, l.getD k 0 = u := ⟨_, rfl⟩
      have hkl : k < l.length := by rw [HNN.out]; exact hlt
      have hun : u < D.n := by rw [← hu]; exact HIN.out _ (atL_mem hkl)
      have hst := csL_take (D := D) hkl
      rw [hu] at hst
      have hb1 := csL_bd (D := D) HCO.out (l := l.take k) (fun x hx => HIN.out x (List.mem_of_mem_take hx))
      have hb2 := HCO.out u hun
      rw [List.length_take] at hb1
      obtain ⟨S, hS⟩ : ∃ e, csL D (l.take k) = e := ⟨_, rfl⟩
      obtain ⟨S2, hS2⟩ : ∃ e, csL D (l.take (k + 1)) = e := ⟨_, rfl⟩
      rw [hS, hS2] at hst
      rw [hS] at hb1 ⊢
      have hmn : min k l.length ≤ 40 := by omega
      have hwr : IntKind.i64.wrap (S + D.co u) = S2 := by rw [← hst]; exact IntWalk.i64_in _ (by omega)
      have HS2 := Lib.hid hS2
      obtain ⟨lb, lo, rfl, _, hcl⟩ := HN.out (by omega)
      obtain ⟨pb, po, rfl, _, hcp⟩ := HI.out.pt (by omega)
      have CL : ∀ z : Ext w1, z.v.cell? ⟨lb, lo + k, none⟩ = some (.int .i64 (u : Int)) := fun z => by
        have := ((HN.out.bel z.b).cell hlt).2
        rw [this]; unfold atL; rw [hu]
      have CP2 : ∀ z : Ext w1, z.v.cell? ⟨pb, po + u * 3 + 2, none⟩ = some (.int .i64 (D.co u)) := fun z => (HI.out.bel z.b).co' hun
      have L0 : ∀ z : Ext w1, z.v.cell? ⟨w.heap.size, 0, none⟩ = some (.slice (some ⟨pb, po, none⟩) D.n c) := fun z => (HL.out.bel z.b).c0
      have ju : (u : Int) < (D.n : Int) := by omega
      clear hst hb1 hb2 hS hS2 hcl hcp hu hkl hmn
      go_wp2
      refine quiet_e (by kernel_rfl) (by kernel_rfl) ?_
      repeat (first | go_big_quiet_step (fail) | quiet_step (fail))
      refine wpQuiet_nil ?_
      intro w6 hw6
      obtain ⟨y1, rfl⟩ := hw6
      go_wp2
      go_roundw
      case rel => exact ⟨k + 1, by go_num, by rw [HS2.out], hlt, y1, rfl⟩
      case measure => first | (simp [intOf]; done) | (simp [intOf]; omega)
    · obtain rfl : k = N := by omega
      have d1 : decide ((k : Int) < (k : Int)) = false := by simp
      have HP : Hid (csL D (l.take k) = csL D l) := by
        show _ = _
        rw [List.take_of_length_le (by rw [HNN.out]; exact Nat.le_refl _)]
      clear hk hlt
      go_wp2
      go_ret
      exact ⟨ret_i HP.out, bT HB.out z.b⟩
set_option maxRecDepth 100000 in
set_option maxHeartbeats 4000000 in
theorem pathR_ok (D : Duct) (p q : Option Addr) (c d : Nat) (s : Nat) (w : World) (hs : s < D.m) (hok : D.ok = true) (hi : DuctIn w w.heap.size D p q) :
    Calls Try.prog 52 #[.agg #[.slice p D.n c, .slice q D.m d], .int .i64 (s : Int)] w fun e w' => ∃ y c', e = .returned (.tuple #[.slice y (path D s).length c', .int .i64 0]) ∧ Below w.heap.size w w' ∧ NumIn w' w'.heap.size (path D s).length (atL (path D s)) y := by
  have hm7 := (D.ok_parts hok).1
  have hnm := (D.ok_parts hok).2.1
  have hn : D.n ≤ 40 := by omega
  have his : isSt D (s : Int) = true := within_tt (by omega) (by omega)
  have HOK := Lib.hid hok; have HS0 := Lib.hid hs
  obtain ⟨i0, hi0, hz0, hz1', hz2⟩ := info_parts infoI
  have I1 := Lib.hid hi0; have I2 := Lib.hid hz0; have I3 := Lib.hid hz1'; have I4 := Lib.hid hz2; clear hi0 hz0 hz1' hz2
  obtain ⟨w1, x1, hw1, hb1, hz1, F0, F1⟩ := box_line w p q D.n D.m c d
  have HB := Lib.hid hb1
  have HI : Hid (∀ x : Ext w1, DuctIn x.v x.v.heap.size D p q) := fun x => (hi.bel hb1).bel x.b
  clear hb1 hz1 hi
  have HS := Lib.hid (show ∀ V : World, Calls Try.prog 27 #[.agg #[.slice p D.n c, .slice q D.m d], .int .i64 (s : Int)] V fun e w' => e = .returned (.bool true) ∧ Below V.heap.size V w' from fun V => by
    have := isStretchR_any D p q c d (s : Int) V (by omega)
    rw [his] at this
    exact this)
  have HC := Lib.hid (show ∀ V : World, DuctIn V V.heap.size D p q → Calls Try.prog 76 #[.agg #[.slice p D.n c, .slice q D.m d], .bool true] V fun e w' => e = .returned (.int .i64 0) ∧ Below V.heap.size V w' from fun V h => by
    have := ask_any D p q c d true V hn (by omega) h
    rw [hok] at this
    exact this)
  have HM := Lib.hid hm7
  have HLEN := Lib.hid (path_len (s := s) hm7)
  have HNX := Lib.hid (show ∀ (f t : Nat) (V : World), f + 1 < t → t ≤ D.m → DuctIn V V.heap.size D p q → Calls Try.prog 78 #[.agg #[.slice p D.n c, .slice q D.m d], .int .i64 (f : Int), .int .i64 (t : Int)] V fun e w' => e = .returned (.int .i64 (NX D f t)) ∧ Below V.heap.size V w' from fun f t V h1 h2 h => nextR_any D p q c d f t V hok h1 h2 h)
  clear hok hnm his hs hm7
  go_enter Try.func52, Try.ntmps52
  go_wp2
  refine quiet_e (by kernel_rfl) (by kernel_rfl) ?_
  repeat (first | go_big_quiet_step ((first | (go_at_call 27; exact quiet_x (HS.out _)) | (go_at_call 76; exact quiet_x (HC.out _ (HI.out _))))) | quiet_step ((first | (go_at_call 27; exact quiet_x (HS.out _)) | (go_at_call 76; exact quiet_x (HC.out _ (HI.out _))))))
  refine wpQuiet_nil ?_
  intro w6 hw6
  obtain ⟨y, rfl⟩ := hw6
  go_wp2
  refine quiet_e (by kernel_rfl) (by kernel_rfl) ?_
  repeat (first | go_big_quiet_step (fail) | quiet_step (fail))
  refine wpQuiet_nil ?_
  intro w6 hw6
  obtain ⟨y5, rfl⟩ := hw6
  go_wp2
  go_loopw [7, 8, 9] (fun v a b wr => ∃ (f t : Nat) (done : List Nat), a = .int .i64 (f : Int) ∧ b = .int .i64 (t : Int) ∧ f < t ∧ t ≤ D.m ∧ done ++ pL D s (t - f) f t = path D s ∧ ∃ z : Ext w1, wr = z.v ∧ z.v.ownsRow w1.heap.size 3 1 v done.length (rowL done)) (fun _ a b _ => (intOf b).toNat - (intOf a).toNat)
  case atStart => exact ⟨0, D.m, [], rfl, rfl, by have := HS0.out; omega, Nat.le_refl _, rfl, y5, rfl, World.ownsRow_nil _ _ _ _⟩
  case round =>
    obtain ⟨f, t, done, rfl, rfl, hft, htm, hd, z, rfl, ho⟩ := hrel
    have HO := Lib.hid ho; have HD := Lib.hid hd; have HTM := Lib.hid htm
    have t7 : t ≤ 7 := by have := HM.out; omega
    clear ho hd htm
    have hw1' : IntKind.i64.wrap ((f : Int) + 1) = (f : Int) + 1 := IntWalk.i64_in _ (by omega)
    by_cases hlt : f + 1 < t
    · have d1 : decide ((f : Int) + 1 < (t : Int)) = true := by simp; omega
      obtain ⟨pp, hp, p1, p2⟩ := NX_in (D := D) hlt
      have hnx := pL_next hlt hp HD.out p1 p2
      have HNXT := Lib.hid hnx
      have hdl : done.length ≤ 6 := by
        have h1 := congrArg List.length HD.out
        rw [List.length_append] at h1
        have := HLEN.out; omega
      have HDL := Lib.hid hdl
      have HLT := Lib.hid hlt; have HP := Lib.hid (And.intro p1 p2)
      have HC1 := Lib.hid (show ∀ V : World, DuctIn V V.heap.size D p q → Calls Try.prog 78 #[.agg #[.slice p D.n c, .slice q D.m d], .int .i64 (f : Int), .int .i64 (t : Int)] V fun e w' => e = .returned (.int .i64 (pp : Int)) ∧ Below V.heap.size V w' from fun V h => by
        have := HNX.out f t V hlt HTM.out h
        rw [hp] at this; exact this)
      clear hnx hp hdl hlt
      go_wp2_with fail
      refine (HC1.out _ (HI.out _)).mono ?_
      rintro e w' ⟨rfl, hbn⟩
      have HOn := Lib.hid (own_below HO.out hbn)
      obtain ⟨z2, rfl⟩ : ∃ z : Ext w1, w' = z.v := ⟨⟨w', bT (Ext.b _) hbn⟩, rfl⟩
      clear hbn
      by_cases hsp : s < pp
      · have d2 : decide ((s : Int) < (pp : Int)) = true := by simp; omega
        go_wp2_with (at_builtin; refine wpList_append_own _ rfl _ _ 23 rfl w1.heap.size 3 i0 _ 1 8 Try.underlying23 I1.out I2.out I3.out I4.out rfl (by decide) _ _ _ rfl (HOn.out.alloc _) ⟨z2.v.heap.size, 0, none⟩ 1 1 [.int .i64 (pp : Int)] rfl rfl (lit_cells1 _ _ _) ?c2 ?c3 ?c4 ?c5 ?_)
        case c2 => simp [Value.oneCell']
        case c3 => have := HDL.out; unfold maxLen; omega
        case c4 => have := HDL.out; omega
        case c5 => have := z2.b.size; first | omega | (simp; omega)
        intro v' w4 hown hgrow _
        have HB4 := Lib.hid (below_grown (bA z2.b _) (HOn.out.alloc _) (Nat.le_refl _) hgrow)
        have HOW := Lib.hid hown
        clear hown hgrow
        go_wp2
        go_roundw
        case rel => exact ⟨f, pp, done ++ [pp], rfl, rfl, p1, by have := HTM.out; omega, HNXT.out.1 hsp, ⟨w4, HB4.out⟩, rfl, by rw [List.length_append]; rw [← rowL_more]; exact HOW.out⟩
        case measure => have := HP.out; first | (simp [intOf]; done) | (simp [intOf]; omega)
      · have d2 : decide ((s : Int) < (pp : Int)) = false := by simp; omega
        go_wp2_with (at_builtin; refine wpList_append_own _ rfl _ _ 23 rfl w1.heap.size 3 i0 _ 1 8 Try.underlying23 I1.out I2.out I3.out I4.out rfl (by decide) _ _ _ rfl (HOn.out.alloc _) ⟨z2.v.heap.size, 0, none⟩ 1 1 [.int .i64 (pp : Int)] rfl rfl (lit_cells1 _ _ _) ?c2 ?c3 ?c4 ?c5 ?_)
        case c2 => simp [Value.oneCell']
        case c3 => have := HDL.out; unfold maxLen; omega
        case c4 => have := HDL.out; omega
        case c5 => have := z2.b.size; first | omega | (simp; omega)
        intro v' w4 hown hgrow _
        have HB4 := Lib.hid (below_grown (bA z2.b _) (HOn.out.alloc _) (Nat.le_refl _) hgrow)
        have HOW := Lib.hid hown
        clear hown hgrow
        go_wp2
        go_roundw
        case rel => exact ⟨pp, t, done ++ [pp], rfl, rfl, p2, HTM.out, HNXT.out.2 hsp, ⟨w4, HB4.out⟩, rfl, by rw [List.length_append]; rw [← rowL_more]; exact HOW.out⟩
        case measure => have := HP.out; first | (simp [intOf]; done) | (simp [intOf]; omega)
    · have d1 : decide ((f : Int) + 1 < (t : Int)) = false := by simp; omega
      have hall : done = path D s := by
        have := HD.out
        rw [pL_one (by omega), List.append_nil] at this; exact this
      obtain ⟨pr, cr, rfl, hnum⟩ := numL_own HO.out rfl
      have HN := Lib.hid hnum; have HA := Lib.hid hall
      have hlt' : ¬ f + 1 < t := hlt
      clear hnum hall hlt
      go_wp2
      refine bodyPost_ret (v := .tuple #[.slice pr done.length cr, .int .i64 0]) (by simp [results, Try.f52, go_sem]) rfl ⟨pr, cr, by rw [← HA.out], bT HB.out z.b, by rw [← HA.out]; exact HN.out⟩
set_option maxRecDepth 100000 in
set_option maxHeartbeats 4000000 in
theorem pathR_er (D : Duct) (p q : Option Addr) (c d : Nat) (k er : Int) (w : World) (hn : D.n ≤ 40) (hm : D.m ≤ 40) (he : chkE D.ok (isSt D k) = er) (h0 : er ≠ 0) (hi : DuctIn w w.heap.size D p q) :
    Calls Try.prog 52 #[.agg #[.slice p D.n c, .slice q D.m d], .int .i64 k] w fun e w' => e = .returned (.tuple #[.slice none 0 0, .int .i64 er]) ∧ Below w.heap.size w w' := by
  obtain ⟨w1, x1, hw1, hb1, hz1, F0, F1⟩ := box_line w p q D.n D.m c d
  have HB := Lib.hid hb1
  have HI : Hid (∀ x : Ext w1, DuctIn x.v x.v.heap.size D p q) := fun x => (hi.bel hb1).bel x.b
  clear hb1 hz1 hi
  obtain ⟨is, his⟩ : ∃ z, isSt D k = z := ⟨_, rfl⟩
  rw [his] at he
  have HS := Lib.hid (show ∀ V : World, Calls Try.prog 27 #[.agg #[.slice p D.n c, .slice q D.m d], .int .i64 k] V fun e w' => e = .returned (.bool is) ∧ Below V.heap.size V w' from fun V => by
    have := isStretchR_any D p q c d k V (by omega)
    rw [his] at this
    exact this)
  have HC := Lib.hid (show ∀ V : World, DuctIn V V.heap.size D p q → Calls Try.prog 76 #[.agg #[.slice p D.n c, .slice q D.m d], .bool is] V fun e w' => e = .returned (.int .i64 er) ∧ Below V.heap.size V w' from fun V h => by
    have := ask_any D p q c d is V hn hm h
    rw [he] at this
    exact this)
  clear he his
  go_enter Try.func52, Try.ntmps52
  go_wp2
  refine quiet_e (by kernel_rfl) (by kernel_rfl) ?_
  repeat (first | go_big_quiet_step ((first | (go_at_call 27; exact quiet_x (HS.out _)) | (go_at_call 76; exact quiet_x (HC.out _ (HI.out _))))) | quiet_step ((first | (go_at_call 27; exact quiet_x (HS.out _)) | (go_at_call 76; exact quiet_x (HC.out _ (HI.out _))))))
  refine wpQuiet_nil ?_
  intro w6 hw6
  obtain ⟨y, rfl⟩ := hw6
  go_wp2
  refine bodyPost_ret (v := .tuple #[.slice none 0 0, .int .i64 er]) (by simp [results, Try.f52, go_sem]) rfl ⟨rfl, ?_⟩
  exact bT HB.out y.b
set_option maxRecDepth 100000 in
set_option maxHeartbeats 4000000 in
theorem paidR_ok (D : Duct) (p q : Option Addr) (c d : Nat) (s : Nat) (w : World) (hs : s < D.m) (hok : D.ok = true) (hi : DuctIn w w.heap.size D p q) :
    Calls Try.prog 53 #[.agg #[.slice p D.n c, .slice q D.m d], .int .i64 (s : Int)] w fun e w' => e = .returned (.tuple #[.int .i64 (paid D s), .int .i64 0]) ∧ Below w.heap.size w w' := by
  have hm7 := (D.ok_parts hok).1
  have hnm := (D.ok_parts hok).2.1
  have hn : D.n ≤ 40 := by omega
  have his : isSt D (s : Int) = true := within_tt (by omega) (by omega)
  have HOK := Lib.hid hok; have HS0 := Lib.hid hs
  obtain ⟨w1, x1, hw1, hb1, hz1, F0, F1⟩ := box_line w p q D.n D.m c d
  have HB := Lib.hid hb1
  have HI : Hid (∀ x : Ext w1, DuctIn x.v x.v.heap.size D p q) := fun x => (hi.bel hb1).bel x.b
  clear hb1 hz1 hi
  have HCO := Lib.hid (co_bd hok)
  have hin : ∀ x, x ∈ path D s → x < D.n := fun x hx => by have := pL_in hx; omega
  have HIN := Lib.hid hin
  have HLEN := Lib.hid (path_len (s := s) hm7)
  clear hok hnm his hs hin
  go_enter Try.func53, Try.ntmps53
  go_wp2_with fail
  refine (pathR_ok D p q c d s _ HS0.out HOK.out (HI.out _)).mono ?_
  rintro e w' ⟨yl, cl, rfl, hb, hnum⟩
  have HN := Lib.hid hnum
  obtain ⟨y4, rfl⟩ : ∃ z : Ext w1, w' = z.v := ⟨⟨w', bT (Ext.b _) hb⟩, rfl⟩
  clear hb hnum
  go_wp2_with fail
  refine (quiet_x (costOf_any D p q c d _ cl (path D s) yl _ rfl (by have := HLEN.out; omega) HIN.out HCO.out HN.out (HI.out _))).mono ?_
  rintro e w' ⟨rfl, y5, rfl⟩
  go_wp2
  refine bodyPost_ret (v := .tuple #[.int .i64 (csL D (path D s)), .int .i64 0]) (by simp [results, Try.f53, go_sem]) rfl ⟨rfl, ?_⟩
  exact bT HB.out y5.b
set_option maxRecDepth 100000 in
set_option maxHeartbeats 4000000 in
theorem paidR_er (D : Duct) (p q : Option Addr) (c d : Nat) (k er : Int) (w : World) (hn : D.n ≤ 40) (hm : D.m ≤ 40) (he : chkE D.ok (isSt D k) = er) (h0 : er ≠ 0) (hi : DuctIn w w.heap.size D p q) :
    Calls Try.prog 53 #[.agg #[.slice p D.n c, .slice q D.m d], .int .i64 k] w fun e w' => e = .returned (.tuple #[.int .i64 0, .int .i64 er]) ∧ Below w.heap.size w w' := by
  obtain ⟨w1, x1, hw1, hb1, hz1, F0, F1⟩ := box_line w p q D.n D.m c d
  have HB := Lib.hid hb1
  have HI : Hid (∀ x : Ext w1, DuctIn x.v x.v.heap.size D p q) := fun x => (hi.bel hb1).bel x.b
  clear hb1 hz1 hi
  have HE := Lib.hid he; have H0 := Lib.hid h0
  clear he
  go_enter Try.func53, Try.ntmps53
  go_wp2_with fail
  refine (quiet_x (pathR_er D p q c d k er _ hn hm HE.out H0.out (HI.out _))).mono ?_
  rintro e w' ⟨rfl, y4, rfl⟩
  go_wp2
  refine bodyPost_ret (v := .tuple #[.int .i64 0, .int .i64 er]) (by simp [results, Try.f53, go_sem]) rfl ⟨rfl, ?_⟩
  exact bT HB.out y4.b
end Go.Proofs.Ytkdlppekjjbgoaa
