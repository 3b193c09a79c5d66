/- LevelsMore where something is asked. Made by gen_l7.py. -/
import Derived.Test.YtmfbfcknnjbabaaL6
import Derived.BigQuiet
set_option linter.unusedSimpArgs false
set_option linter.unusedVariables false
namespace Go.Proofs.Ytmfbfcknnjbabaa
open Go.RowKit

set_option maxRecDepth 100000 in
set_option maxHeartbeats 16000000 in
theorem more_none (T : Town) (p q : Option Addr) (c d : Nat) (u v : Nat) (x : Snd) (z : Slp) (t y : Int) (w : World) (ht : TownIn w w.heap.size T p q)
    (hr : rdy T = true) (hu : (u : Int) < T.W) (hv : (v : Int) < T.W) (hk : kn T = none) :
    Calls Try.prog 11 #[.agg #[.int .i64 T.W, .slice p T.s.length c, .slice q T.r.length d], .agg #[.int .i64 x.well, .int .i64 x.low, .int .i64 x.high, .int .i64 z.a, .int .i64 z.b, .int .i64 z.low, .int .i64 z.high], .agg #[.int .i64 u, .int .i64 v, .int .i64 t, .int .i64 y]] w fun e w' => e = .returned (.bool true) ∧ Below w.heap.size w w' := by
  obtain ⟨a, ea⟩ : ∃ a : Int, a = u := ⟨_, rfl⟩
  obtain ⟨b, eb⟩ : ∃ b : Int, b = v := ⟨_, rfl⟩
  rw [← ea, ← eb]
  obtain ⟨w1, hw1, hb1, hz1, k0, k1, k2, k3, k4, xm⟩ := box_more w T.W p q T.s.length T.r.length c d x z a b t y
  have l0 : w.heap.size < w1.heap.size := by omega
  have l1 : w.heap.size + 1 + 1 < w1.heap.size := by omega
  have lm : w.heap.size + 1 < w1.heap.size := by omega
  have HBB1 := Lib.hid (Below.refl w1.heap.size w1)
  have HB1 := Lib.hid hb1
  have XM := Lib.hid xm
  have hrdy := ready_any T p q c d w1 (ht.bel hb1)
  clear xm
  obtain ⟨hok, hW5, h8⟩ := rdy_ok hr
  have hW := ok_W hok
  rw [hr] at hrdy
  have HR := Lib.hid hrdy
  have hia : ∀ V, Calls Try.prog 48 #[.agg #[.int .i64 T.W, .slice p T.s.length c, .slice q T.r.length d], .int .i64 a] V fun e w' => e = .returned (.bool true) ∧ Below V.heap.size V w' := fun V => isWell_b T.W a _ _ true V (by omega) (by omega) (by simp only [within, decide_eq_true_eq]; omega)
  have hib : ∀ V, Calls Try.prog 48 #[.agg #[.int .i64 T.W, .slice p T.s.length c, .slice q T.r.length d], .int .i64 b] V fun e w' => e = .returned (.bool true) ∧ Below V.heap.size V w' := fun V => isWell_b T.W b _ _ true V (by omega) (by omega) (by simp only [within, decide_eq_true_eq]; omega)
  have hcp : ∀ V, Below w.heap.size w V → _ := fun V hV => copy_own T p q c d V (by omega) (by omega) (ht.bel hV)
  have hsd : ∀ V, Below w.heap.size w V → _ := fun V hV => sounded_own T x p q c d V (by omega) (by omega) (ht.bel hV)
  have HA := Lib.hid hia; have HB := Lib.hid hib; have HC := Lib.hid hcp; have HS := Lib.hid hsd; have H8 := Lib.hid h8
  obtain ⟨i4, hi4, hz4, hz4', hz4''⟩ := info_parts info58
  have I4 := Lib.hid hi4; have Z4 := Lib.hid hz4; have Z4' := Lib.hid hz4'; have Z4'' := Lib.hid hz4''
  clear hi4 hz4 hz4' hz4'' hia hib hcp hsd h8 hrdy
  have hen : ∀ V, Below w.heap.size w V → _ := fun V hV => ends_none T p q c d V hok hk (ht.bel hV)
  have HE := Lib.hid hen
  have hrd : ∀ (U : Town) (pu : Option Addr) (cu : Nat) (qu : Option Addr) (du : Nat) (V : World), U.W = T.W → TownIn V V.heap.size U pu qu → Calls Try.prog 45 #[.agg #[.int .i64 T.W, .slice pu U.s.length cu, .slice qu U.r.length du]] V fun e w' => e = .returned (.bool (rdy U)) ∧ Below V.heap.size V w' := fun U pu cu qu du V hw h => by
    have := ready_any U pu qu cu du V h
    rw [hw] at this; exact this
  have heu : ∀ (U : Town) (pu : Option Addr) (cu : Nat) (qu : Option Addr) (du : Nat) (V : World), U.W = T.W → rdy U = true → Says U T → TownIn V V.heap.size U pu qu → Calls Try.prog 47 #[.agg #[.int .i64 T.W, .slice pu U.s.length cu, .slice qu U.r.length du]] V fun e w' => e = .returned (.tuple #[.slice none 0 0, .slice none 0 0, .bool false, .bool true]) ∧ Below V.heap.size V w' := fun U pu cu qu du V hw hrU hsy h => by
    have := ends_none U pu qu cu du V (rdy_ok hrU).1 (says_none hok (rdy_ok hrU).1 hsy hk) h
    rw [hw] at this; exact this
  have HRD := Lib.hid hrd; have HEU := Lib.hid heu
  have HSY0 := Lib.hid (says_snd T x); have HSY1 := Lib.hid (says_slp T z)
  have HW0 := Lib.hid (show (T.snd x).W = T.W from rfl); have HW1 := Lib.hid (show (T.slp z).W = T.W from rfl)
  clear hen hrd heu hok hk hr hu hv ea eb ht hb1 hW hW5
  go_enter Try.func11, Try.ntmps11
  go_wp2_with fail
  refine (HR.out).mono ?_
  rintro e w2 ⟨rfl, hb2⟩
  have HBB2 := Lib.hid (bT HBB1.out hb2)
  clear hb2
  have c20 := (HBB2.out.cell (p := ⟨w.heap.size, 0, none⟩) l0).trans k0
  have c21 := (HBB2.out.cell (p := ⟨w.heap.size, 1, none⟩) l0).trans k1
  have c22 := (HBB2.out.cell (p := ⟨w.heap.size, 2, none⟩) l0).trans k2
  have c23 := (HBB2.out.cell (p := ⟨w.heap.size + 1 + 1, 0, none⟩) l1).trans k3
  have c24 := (HBB2.out.cell (p := ⟨w.heap.size + 1 + 1, 1, none⟩) l1).trans k4
  go_wp2_with fail
  refine (HA.out _).mono ?_
  rintro e w3 ⟨rfl, hb3⟩
  have HBB3 := Lib.hid (bT HBB2.out hb3)
  clear hb3
  have c30 := (HBB3.out.cell (p := ⟨w.heap.size, 0, none⟩) l0).trans k0
  have c31 := (HBB3.out.cell (p := ⟨w.heap.size, 1, none⟩) l0).trans k1
  have c32 := (HBB3.out.cell (p := ⟨w.heap.size, 2, none⟩) l0).trans k2
  have c33 := (HBB3.out.cell (p := ⟨w.heap.size + 1 + 1, 0, none⟩) l1).trans k3
  have c34 := (HBB3.out.cell (p := ⟨w.heap.size + 1 + 1, 1, none⟩) l1).trans k4
  clear c20 c21 c22 c23 c24
  go_wp2_with fail
  refine (HB.out _).mono ?_
  rintro e w4 ⟨rfl, hb4⟩
  have HBB4 := Lib.hid (bT HBB3.out hb4)
  clear hb4
  have c40 := (HBB4.out.cell (p := ⟨w.heap.size, 0, none⟩) l0).trans k0
  have c41 := (HBB4.out.cell (p := ⟨w.heap.size, 1, none⟩) l0).trans k1
  have c42 := (HBB4.out.cell (p := ⟨w.heap.size, 2, none⟩) l0).trans k2
  have c43 := (HBB4.out.cell (p := ⟨w.heap.size + 1 + 1, 0, none⟩) l1).trans k3
  have c44 := (HBB4.out.cell (p := ⟨w.heap.size + 1 + 1, 1, none⟩) l1).trans k4
  clear c30 c31 c32 c33 c34
  go_wp2_with fail
  refine (HE.out _ (bT HB1.out HBB4.out)).mono ?_
  rintro e w5 ⟨rfl, hb5⟩
  have HBB5 := Lib.hid (bT HBB4.out hb5)
  clear hb5
  have c50 := (HBB5.out.cell (p := ⟨w.heap.size, 0, none⟩) l0).trans k0
  have c51 := (HBB5.out.cell (p := ⟨w.heap.size, 1, none⟩) l0).trans k1
  have c52 := (HBB5.out.cell (p := ⟨w.heap.size, 2, none⟩) l0).trans k2
  have c53 := (HBB5.out.cell (p := ⟨w.heap.size + 1 + 1, 0, none⟩) l1).trans k3
  have c54 := (HBB5.out.cell (p := ⟨w.heap.size + 1 + 1, 1, none⟩) l1).trans k4
  clear c40 c41 c42 c43 c44
  have xm := (HBB5.out.block _ lm).trans XM.out
  have m0 := cell_of_row w5 (w.heap.size + 1) 0 _ _ _ xm
  have m1 := cell_of_row w5 (w.heap.size + 1) 1 _ _ _ xm
  have m2 := cell_of_row w5 (w.heap.size + 1) 2 _ _ _ xm
  simp only [List.getElem?_toArray, List.getElem?_cons_zero, List.getElem?_cons_succ] at m0 m1 m2
  clear xm
  go_wp2_with fail
  refine (HS.out _ (bT HB1.out HBB5.out)).mono ?_
  rintro e w6 ⟨p6, e6, q6, f6, rfl, hb6, ho6⟩
  have HBB6 := Lib.hid (bT HBB5.out hb6)
  have HT0 := Lib.hid ho6.town
  clear hb6 ho6 m0 m1 m2
  have c60 := (HBB6.out.cell (p := ⟨w.heap.size, 0, none⟩) l0).trans k0
  have c61 := (HBB6.out.cell (p := ⟨w.heap.size, 1, none⟩) l0).trans k1
  have c62 := (HBB6.out.cell (p := ⟨w.heap.size, 2, none⟩) l0).trans k2
  have c63 := (HBB6.out.cell (p := ⟨w.heap.size + 1 + 1, 0, none⟩) l1).trans k3
  have c64 := (HBB6.out.cell (p := ⟨w.heap.size + 1 + 1, 1, none⟩) l1).trans k4
  clear c50 c51 c52 c53 c54
  obtain ⟨U0, hU0⟩ : ∃ U, T.snd x = U := ⟨_, rfl⟩
  rw [hU0] at HT0 HSY0 HW0
  have hs0 : U0.s.length = T.s.length + 1 := by rw [← hU0]; simp [Town.snd]
  have hr0 : U0.r.length = T.r.length := by rw [← hU0]; rfl
  have HS0 := Lib.hid hs0; have HR0 := Lib.hid hr0
  clear hs0 hr0
  have l60 : w.heap.size < w6.heap.size := by have := HBB6.out.size; omega
  go_wp2_with fail
  obtain ⟨W6, hW6⟩ : ∃ W6, w6.alloc (Obj.cells #[Value.int IntKind.i64 T.W, Value.slice p6 (T.s.length + 1) e6, Value.slice q6 T.r.length f6] 25) = W6 := ⟨_, rfl⟩
  rw [hW6]
  have y6 : W6.heap[w6.heap.size]? = some (.cells #[Value.int IntKind.i64 T.W, Value.slice p6 U0.s.length e6, Value.slice q6 U0.r.length f6] 25 (0, 0)) := by rw [← hW6, HS0.out, HR0.out]; exact heap_alloc_new _ _
  have b6 : Below w6.heap.size w6 W6 := by rw [← hW6]; exact bA (Below.refl _ _) _
  have HBB6' := Lib.hid (bT HBB6.out b6)
  have Y6 := Lib.hid y6
  have HT0' := Lib.hid (HT0.out.bel b6)
  have HH6 := Lib.hid hW6
  clear y6 b6 hW6 HT0 l60 c60 c61 c62 c63 c64
  refine (HC.out W6 (bT HB1.out HBB6'.out)).mono ?_
  rintro e w7 ⟨p7, e7, q7, f7, rfl, hb7, ho7⟩
  have HBB7 := Lib.hid (bT HBB6'.out hb7)
  have HR7 := Lib.hid hb7
  have HO7 := Lib.hid ho7
  clear hb7 ho7
  have c70 := (HBB7.out.cell (p := ⟨w.heap.size, 0, none⟩) l0).trans k0
  have c71 := (HBB7.out.cell (p := ⟨w.heap.size, 1, none⟩) l0).trans k1
  have c72 := (HBB7.out.cell (p := ⟨w.heap.size, 2, none⟩) l0).trans k2
  have c73 := (HBB7.out.cell (p := ⟨w.heap.size + 1 + 1, 0, none⟩) l1).trans k3
  have c74 := (HBB7.out.cell (p := ⟨w.heap.size + 1 + 1, 1, none⟩) l1).trans k4
  have xm := (HBB7.out.block _ lm).trans XM.out
  have m3 := cell_of_row w7 (w.heap.size + 1) 3 _ _ _ xm
  have m4 := cell_of_row w7 (w.heap.size + 1) 4 _ _ _ xm
  have m5 := cell_of_row w7 (w.heap.size + 1) 5 _ _ _ xm
  have m6 := cell_of_row w7 (w.heap.size + 1) 6 _ _ _ xm
  simp only [List.getElem?_toArray, List.getElem?_cons_zero, List.getElem?_cons_succ] at m3 m4 m5 m6
  have l70 : w.heap.size < w7.heap.size := by have := HBB7.out.size; omega
  have l71 : w.heap.size + 1 < w7.heap.size := by have := HBB7.out.size; omega
  clear xm
  go_wp2_with (at_builtin; refine wpList_append_own _ rfl _ _ 23 rfl (W6.heap.size + 2) 58 i4 _ 4 32 Try.underlying23 I4.out Z4.out Z4'.out Z4''.out rfl (by decide) _ _ _ rfl ((HO7.out.r.alloc _).alloc _) ⟨w7.heap.size + 1, 0, none⟩ 1 1 [.int .i64 z.a, .int .i64 z.b, .int .i64 z.low, .int .i64 z.high] rfl rfl ?c1 ?c2 ?c3 ?c4 ?c5 ?_)
  case c1 => exact World.news_of_block (cs := #[.int .i64 z.a, .int .i64 z.b, .int .i64 z.low, .int .i64 z.high]) (t := 58) (fr := (0, 0)) (by have := heap_alloc_new (w7.alloc (Obj.cells #[Value.int IntKind.i64 T.W, Value.slice p7 T.s.length e7, Value.slice q7 T.r.length f7] 25)) (Obj.cells #[.int .i64 z.a, .int .i64 z.b, .int .i64 z.low, .int .i64 z.high] 58); simpa using this)
  case c2 => simp [Value.oneCell']
  case c3 => have := H8.out; unfold maxLen; omega
  case c4 => have := H8.out; omega
  case c5 => have := HO7.out.r.1; have := HR7.out.size; simp; omega
  intro v' w8 hown hgrow _
  obtain ⟨W', hW'⟩ : ∃ W', (w7.alloc (Obj.cells #[Value.int IntKind.i64 T.W, Value.slice p7 T.s.length e7, Value.slice q7 T.r.length f7] 25)).alloc (Obj.cells #[.int .i64 z.a, .int .i64 z.b, .int .i64 z.low, .int .i64 z.high] 58) = W' := ⟨_, rfl⟩
  rw [hW'] at hgrow
  obtain ⟨p8, e8, rfl, _⟩ := own_form hown
  have hbx : W'.heap[w7.heap.size]? = some (.cells #[Value.int IntKind.i64 T.W, Value.slice p7 T.s.length e7, Value.slice q7 T.r.length f7] 25 (0, 0)) := by
    rw [← hW']; exact (Below.heap_alloc _ _ _ (by simp)).trans (heap_alloc_new _ _)
  have hb7W : Below w7.heap.size w7 W' := by rw [← hW']; exact bA (bA (Below.refl _ _) _) _
  have hoS : W'.ownsRow (W6.heap.size + 2) 62 3 (.slice p7 T.s.length e7) T.s.length (flatS T.s) := own_below HO7.out.s hb7W
  have hoR : W'.ownsRow (W6.heap.size + 2) 58 4 (.slice q7 T.r.length f7) T.r.length (flatR T.r) := own_below HO7.out.r hb7W
  have hsz : w7.heap.size < W'.heap.size := (Array.getElem?_eq_some_iff.1 hbx).1
  have hb8 : w8.heap[w7.heap.size]? = some (.cells #[Value.int IntKind.i64 T.W, Value.slice p7 T.s.length e7, Value.slice q7 T.r.length f7] 25 (0, 0)) := (hgrow.block _ hsz (own_ne_box hoR hbx (by decide))).trans hbx
  have hb8' := hb8
  have hoS8 : w8.ownsRow (W6.heap.size + 2) 62 3 (.slice p7 T.s.length e7) T.s.length (flatS T.s) := hoS.kept hgrow (own_ne hoS hoR (by decide))
  have hbelow : Below W6.heap.size W6 w8 := below_grown (bT HR7.out hb7W) hoR (by omega) hgrow
  obtain ⟨U1, hU1⟩ : ∃ U, T.slp z = U := ⟨_, rfl⟩
  have hs1 : U1.s.length = T.s.length := by rw [← hU1]; rfl
  have hr1 : U1.r.length = T.r.length + 1 := by rw [← hU1]; simp [Town.slp]
  have s0 := cell_of_row w8 w7.heap.size 0 _ _ _ hb8
  have s1 := cell_of_row w8 w7.heap.size 1 _ _ _ hb8
  have s2 := cell_of_row w8 w7.heap.size 2 _ _ _ hb8
  have fs : ∀ i, w8.frozen? ⟨w7.heap.size, i, none⟩ = false := fun i => by simp [World.frozen?, hb8]
  simp only [List.getElem?_toArray, List.getElem?_cons_zero, List.getElem?_cons_succ] at s0 s1 s2
  have hto : TownOwn (w8.setCell ⟨w7.heap.size, 2, none⟩ (.slice p8 (T.r.length + 1) e8)) (W6.heap.size + 2) (T.slp z) p7 p8 e7 e8 := by
    refine ⟨own_set_ne hoS8 hb8 (by decide), ?_⟩
    have := own_set_ne (o := 2) (u := .slice p8 (T.r.length + 1) e8) hown hb8 (by decide)
    simpa [Town.slp, flatR_snoc] using this
  rw [hU1] at hto HSY1 HW1
  have hR8 := bS hbelow (show W6.heap.size ≤ (⟨w7.heap.size, 2, none⟩ : Addr).block from HR7.out.size) (.slice p8 (T.r.length + 1) e8)
  have v0 : (w8.setCell ⟨w7.heap.size, 2, none⟩ (.slice p8 (T.r.length + 1) e8)).cell? ⟨w7.heap.size, 0, none⟩ = some (.int .i64 T.W) := (World.cell?_setCell_other _ _ _ _ (by simp)).trans s0
  have HS1 := Lib.hid hs1; have HR1 := Lib.hid hr1
  have v1 : (w8.setCell ⟨w7.heap.size, 2, none⟩ (.slice p8 (T.r.length + 1) e8)).cell? ⟨w7.heap.size, 1, none⟩ = some (.slice p7 U1.s.length e7) := by rw [hs1]; exact (World.cell?_setCell_other _ _ _ _ (by simp)).trans s1
  have v2 : (w8.setCell ⟨w7.heap.size, 2, none⟩ (.slice p8 (T.r.length + 1) e8)).cell? ⟨w7.heap.size, 2, none⟩ = some (.slice p8 U1.r.length e8) := by rw [hr1]; exact World.cell?_setCell_same _ _ _ s2
  have HT1 := Lib.hid hto.town
  clear hs1 hr1 hown hgrow hbx hb7W hoS hoR hsz hb8 hoS8 hbelow hW' HO7 hto m3 m4 m5 m6 c70 c71 c72 c73 c74
  go_wp2_with fail
  obtain ⟨W8, hW8⟩ : ∃ W8, w8.setCell ⟨w7.heap.size, 2, none⟩ (.slice p8 (T.r.length + 1) e8) = W8 := ⟨_, rfl⟩
  rw [hW8] at v0 v1 v2 hR8 HT1 ⊢
  have HR8 := Lib.hid hR8
  have HV0 := Lib.hid v0; have HV1 := Lib.hid v1; have HV2 := Lib.hid v2
  have HBB8 := Lib.hid (bT HBB6'.out hR8)
  have HT0 := Lib.hid (HT0'.out.bel hR8)
  have HH8 := Lib.hid hW8
  have lv7 : w7.heap.size < W8.heap.size := by rw [← hW8]; have := Boxed_lt hb8'; simpa using this
  clear v0 v1 v2 hR8 hW8 s0 s1 s2 fs HT0' l70 l71
  go_loopw [13] (fun i wr => ∃ k : Int, i = .int .i64 k ∧ (k = 0 ∨ k = 1 ∨ k = 2) ∧ Below W8.heap.size W8 wr) (fun i _ => (2 - intOf i).toNat)
  case atStart => exact ⟨0, rfl, .inl rfl, Below.refl _ _⟩
  case round =>
    obtain ⟨k, rfl, hk, hb⟩ := hrel
    have HBBr := Lib.hid (bT HBB8.out hb)
    have hbr := Lib.hid hb
    have xr := (hb.block w6.heap.size (by have := Boxed_lt Y6.out; have := HR8.out.size; omega)).trans ((HR8.out.block w6.heap.size (Boxed_lt Y6.out)).trans Y6.out)
    have g0 := cell_of_row wr w6.heap.size 0 _ _ _ xr
    have g1 := cell_of_row wr w6.heap.size 1 _ _ _ xr
    have g2 := cell_of_row wr w6.heap.size 2 _ _ _ xr
    simp only [List.getElem?_toArray, List.getElem?_cons_zero, List.getElem?_cons_succ] at g0 g1 g2
    have n0 := (hb.cell (p := ⟨w7.heap.size, 0, none⟩) lv7).trans HV0.out
    have n1 := (hb.cell (p := ⟨w7.heap.size, 1, none⟩) lv7).trans HV1.out
    have n2 := (hb.cell (p := ⟨w7.heap.size, 2, none⟩) lv7).trans HV2.out
    have ln7 : w7.heap.size < wr.heap.size := by have := hb.size; omega
    have ln6 : w6.heap.size < wr.heap.size := Boxed_lt xr
    clear hb xr
    rcases hk with rfl | rfl | rfl
    · go_wp2_with fail
      obtain ⟨Wk, hWk⟩ : ∃ Wk, wr.alloc (Obj.cells #[Value.int IntKind.i64 T.W, Value.slice p6 U0.s.length e6, Value.slice q6 U0.r.length f6] 25) = Wk := ⟨_, rfl⟩
      rw [hWk]
      have bk : Below wr.heap.size wr Wk := by rw [← hWk]; exact bA (Below.refl _ _) _
      have yk : Wk.heap[wr.heap.size]? = some (.cells #[Value.int IntKind.i64 T.W, Value.slice p6 U0.s.length e6, Value.slice q6 U0.r.length f6] 25 (0, 0)) := by rw [← hWk]; exact heap_alloc_new _ _
      have hlk := Boxed_lt yk
      have htk := HT0.out.bel (bT hbr.out bk)
      have HHk := Lib.hid hWk
      have hbk := Lib.hid (bT hbr.out bk)
      have HBk := Lib.hid bk
      clear hWk bk
      refine (HRD.out U0 _ _ _ _ Wk HW0.out htk).mono ?_
      rintro e w9 ⟨rfl, hb9⟩
      have q0 := cell_of_row w9 wr.heap.size 0 _ _ _ ((hb9.block _ hlk).trans yk)
      have q1 := cell_of_row w9 wr.heap.size 1 _ _ _ ((hb9.block _ hlk).trans yk)
      have q2 := cell_of_row w9 wr.heap.size 2 _ _ _ ((hb9.block _ hlk).trans yk)
      simp only [List.getElem?_toArray, List.getElem?_cons_zero, List.getElem?_cons_succ] at q0 q1 q2
      have HBr9 := Lib.hid (bT hbk.out hb9)
      have HTk := Lib.hid (htk.bel hb9)
      clear htk hb9 yk hlk g0 g1 g2 n0 n1 n2
      cases hrU : rdy U0 with
      | false =>
        go_wp2_with fail
        exact ⟨⟨1, rfl, .inr (.inl rfl), HBr9.out⟩, by simp only [intOf]; omega⟩
      | true =>
        have HEU' := Lib.hid (HEU.out U0 p6 e6 q6 f6 w9 HW0.out hrU HSY0.out HTk.out)
        clear hrU
        go_wp2_with fail
        refine HEU'.out.mono ?_
        rintro e w10 ⟨rfl, hb10⟩
        have HBr10 := Lib.hid (bT HBr9.out hb10)
        clear hb10
        go_wp2_with fail
        exact ⟨⟨1, rfl, .inr (.inl rfl), HBr10.out⟩, by simp only [intOf]; omega⟩
    · go_wp2_with fail
      obtain ⟨Wk, hWk⟩ : ∃ Wk, wr.alloc (Obj.cells #[Value.int IntKind.i64 T.W, Value.slice p7 U1.s.length e7, Value.slice p8 U1.r.length e8] 25) = Wk := ⟨_, rfl⟩
      rw [hWk]
      have bk : Below wr.heap.size wr Wk := by rw [← hWk]; exact bA (Below.refl _ _) _
      have yk : Wk.heap[wr.heap.size]? = some (.cells #[Value.int IntKind.i64 T.W, Value.slice p7 U1.s.length e7, Value.slice p8 U1.r.length e8] 25 (0, 0)) := by rw [← hWk]; exact heap_alloc_new _ _
      have hlk := Boxed_lt yk
      have htk := HT1.out.bel (bT hbr.out bk)
      have HHk := Lib.hid hWk
      have hbk := Lib.hid (bT hbr.out bk)
      have HBk := Lib.hid bk
      clear hWk bk
      refine (HRD.out U1 _ _ _ _ Wk HW1.out htk).mono ?_
      rintro e w9 ⟨rfl, hb9⟩
      have q0 := cell_of_row w9 wr.heap.size 0 _ _ _ ((hb9.block _ hlk).trans yk)
      have q1 := cell_of_row w9 wr.heap.size 1 _ _ _ ((hb9.block _ hlk).trans yk)
      have q2 := cell_of_row w9 wr.heap.size 2 _ _ _ ((hb9.block _ hlk).trans yk)
      simp only [List.getElem?_toArray, List.getElem?_cons_zero, List.getElem?_cons_succ] at q0 q1 q2
      have HBr9 := Lib.hid (bT hbk.out hb9)
      have HTk := Lib.hid (htk.bel hb9)
      clear htk hb9 yk hlk g0 g1 g2 n0 n1 n2
      cases hrU : rdy U1 with
      | false =>
        go_wp2_with fail
        exact ⟨⟨2, rfl, .inr (.inr rfl), HBr9.out⟩, by simp only [intOf]; omega⟩
      | true =>
        have HEU' := Lib.hid (HEU.out U1 p7 e7 p8 e8 w9 HW1.out hrU HSY1.out HTk.out)
        clear hrU
        go_wp2_with fail
        refine HEU'.out.mono ?_
        rintro e w10 ⟨rfl, hb10⟩
        have HBr10 := Lib.hid (bT HBr9.out hb10)
        clear hb10
        go_wp2_with fail
        exact ⟨⟨2, rfl, .inr (.inr rfl), HBr10.out⟩, by simp only [intOf]; omega⟩
    · go_wp2_with fail
      refine (works_ex _).mono ?_
      rintro e w9 ⟨rfl, hb9⟩
      have HB9 := Lib.hid (bT HB1.out (bT HBBr.out hb9))
      clear hb9
      go_wp2_with fail
      go_ret
      exact ⟨rfl, HB9.out⟩
end Go.Proofs.Ytmfbfcknnjbabaa
