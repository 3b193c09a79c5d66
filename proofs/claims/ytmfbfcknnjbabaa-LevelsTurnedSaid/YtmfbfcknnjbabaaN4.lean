/- LevelsTurned returns true in every walk, whatever the town. Made by n4.py. -/
import Derived.Test.YtmfbfcknnjbabaaP4
import Derived.Test.YtmfbfcknnjbabaaN2
set_option linter.unusedSimpArgs false
set_option linter.unusedVariables false
namespace Go.Proofs.Ytmfbfcknnjbabaa
open Go.RowKit

theorem flatR_set4 : ∀ (l : List Slp) (k : Nat) (x : Slp), k < l.length → ((((flatR l).set (k * 4) (.int .i64 x.a)).set (k * 4 + 1) (.int .i64 x.b)).set (k * 4 + 2) (.int .i64 x.low)).set (k * 4 + 3) (.int .i64 x.high) = flatR (l.set k x)
  | y :: l, 0, x, _ => by simp [flatR]
  | y :: l, k + 1, x, h => by
    have ih := flatR_set4 l k x (by simpa using h)
    have e : ∀ (z : Slp) (K : List Slp), flatR (z :: K) = .int .i64 z.a :: .int .i64 z.b :: .int .i64 z.low :: .int .i64 z.high :: flatR K := fun z K => by simp [flatR]
    rw [e, List.set_cons_succ, e, show (k + 1) * 4 = k * 4 + 1 + 1 + 1 + 1 by omega]
    simp only [List.set_cons_succ]
    rw [ih]
/-- a slope is stored into an owned row of slopes -/
theorem own_slp_set {w : World} {base g m c : Nat} {l : List Slp} (h : w.ownsRow base 58 4 (.slice (some ⟨g, 0, none⟩) m c) m (flatR l)) (hl : l.length = m) (k : Nat) (hk : k < m) (x y z u : Int) :
    ∃ w', (((w.setCell ⟨g, k * 4, none⟩ (.int .i64 x)).setCell ⟨g, k * 4 + 1, none⟩ (.int .i64 y)).setCell ⟨g, k * 4 + 2, none⟩ (.int .i64 z)).setCell ⟨g, k * 4 + 3, none⟩ (.int .i64 u) = w' ∧ w'.ownsRow base 58 4 (.slice (some ⟨g, 0, none⟩) m c) m (flatR (l.set k ⟨x, y, z, u⟩)) ∧
      w.grownBy w' (some g) ∧ (∀ W : World, W.heap.size ≤ g → Below W.heap.size W w → Below W.heap.size W w') := by
  have a1 := (World.ownsRow.stored h (k * 4) (.int .i64 x)).1
  have a2 := (World.ownsRow.stored a1 (k * 4 + 1) (.int .i64 y)).1
  have a3 := (World.ownsRow.stored a2 (k * 4 + 2) (.int .i64 z)).1
  have a4 := (World.ownsRow.stored a3 (k * 4 + 3) (.int .i64 u)).1
  have e := flatR_set4 l k ⟨x, y, z, u⟩ (by rw [hl]; exact hk)
  rw [e] at a4
  have g1 := gS (gR w (some g)) (p := ⟨g, k * 4, none⟩) (.inl rfl) (.int .i64 x)
  have g2 := gS g1 (p := ⟨g, k * 4 + 1, none⟩) (.inl rfl) (.int .i64 y)
  have g3 := gS g2 (p := ⟨g, k * 4 + 2, none⟩) (.inl rfl) (.int .i64 z)
  have g4 := gS g3 (p := ⟨g, k * 4 + 3, none⟩) (.inl rfl) (.int .i64 u)
  have hB : ∀ W : World, W.heap.size ≤ g → Below W.heap.size W w → Below W.heap.size W ((((w.setCell ⟨g, k * 4, none⟩ (.int .i64 x)).setCell ⟨g, k * 4 + 1, none⟩ (.int .i64 y)).setCell ⟨g, k * 4 + 2, none⟩ (.int .i64 z)).setCell ⟨g, k * 4 + 3, none⟩ (.int .i64 u)) := fun W hg hb => by
    have b1 := bS hb (p := ⟨g, k * 4, none⟩) hg (.int .i64 x)
    have b2 := bS b1 (p := ⟨g, k * 4 + 1, none⟩) hg (.int .i64 y)
    have b3 := bS b2 (p := ⟨g, k * 4 + 2, none⟩) hg (.int .i64 z)
    exact bS b3 (p := ⟨g, k * 4 + 3, none⟩) hg (.int .i64 u)
  exact ⟨_, rfl, a4, g4, hB⟩
/-- a list whose first members were turned -/
def dkF {α : Type} (f : α → α) (l : List α) (k : Nat) : List α := (l.take k).map f ++ l.drop k
section
variable {α : Type} (f : α → α) (l : List α)
theorem dkF_len (k : Nat) : (dkF f l k).length = l.length := by simp [dkF]; omega
theorem dkF_zero : dkF f l 0 = l := by simp [dkF]
theorem dkF_all : dkF f l l.length = l.map f := by simp [dkF]
theorem dkF_succ (k : Nat) (hk : k < l.length) : dkF f l (k + 1) = (dkF f l k).set k (f l[k]) := by
  have hl : ((l.take k).map f).length = k := by simp; omega
  unfold dkF
  rw [List.set_append_right _ _ (by omega), hl, Nat.sub_self, List.drop_eq_getElem_cons hk, List.set_cons_zero, List.take_succ_eq_append_getElem hk, List.map_append]
  simp
end
theorem turn_eq (T : Town) : T.turn = ⟨T.W, dkF turnS T.s T.s.length, dkF turnR T.r T.r.length⟩ := by rw [dkF_all, dkF_all]; rfl
theorem ext_len {ok : List Int → Int → Bool} {many : Nat} : ∀ (d : Nat) (pre l : List Int), l ∈ ext ok many d pre → l.length = pre.length + d
  | 0, pre, l, h => by simp only [ext, List.mem_singleton] at h; rw [h]; rfl
  | d + 1, pre, l, h => by
    simp only [ext, List.mem_flatMap] at h
    obtain ⟨k, _, h⟩ := h
    by_cases c : ok pre k = true
    · rw [if_pos c] at h
      have := ext_len d _ l h
      simp at this
      omega
    · rw [if_neg c] at h; simp at h
theorem findTo_len {P : List Int → Bool} {m : Nat} : ∀ {K : Nat} {l : List Int}, findTo P (clashL m) K = some l → l.length ≤ K
  | 0, l, h => by simp [findTo] at h
  | K + 1, l, h => by
    simp only [findTo] at h
    cases hf : findTo P (clashL m) K with
    | some l' =>
      rw [hf] at h
      simp only [Option.some.injEq] at h
      subst h
      have := findTo_len hf
      omega
    | none =>
      rw [hf] at h
      have := ext_len K [] l (List.mem_of_find?_eq_some h)
      simp at this
      omega
theorem clR_len (T : Town) (m : Nat) : (clR T m).1.length ≤ m + 1 := by
  unfold clR
  cases kn T with
  | some M => simp
  | none =>
    dsimp only
    cases h : findTo (clashP (words T)) (clashL m) (m + 1) with
    | none => simp
    | some l => exact findTo_len h
theorem idR_len (T : Town) (n m : Nat) : (idR T n m).1.length ≤ m := by
  unfold idR
  cases kn T with
  | none => simp
  | some M => exact idL_len _ _ _ _

set_option maxRecDepth 100000 in
set_option maxHeartbeats 16000000 in
theorem turned_skip (T : Town) (p q : Option Addr) (c d : Nat) (w : World) (ht : TownIn w w.heap.size T p q) (hr : rdy T = false) :
    Calls Try.prog 14 #[.agg #[.int .i64 T.W, .slice p T.s.length c, .slice q T.r.length d]] w fun e w' => e = .returned (.bool true) ∧ Below w.heap.size w w' := by
  obtain ⟨w1, hw1, hb1, hz1, y1⟩ := box_row w (.cells #[.int .i64 T.W, .slice p T.s.length c, .slice q T.r.length d] 25)
  have hT1 := ht.bel hb1
  have hrd := ready_any T p q c d w1 hT1
  rw [hr] at hrd
  have HR := Lib.hid hrd; have HB1 := Lib.hid hb1; have Yt := Lib.hid y1; have FT := Lib.hid hT1
  clear hrd hb1 hz1 y1 hT1 ht hr
  have ct0_0 := cell_of_row w1 w.heap.size 0 _ _ _ Yt.out
  have ct1_0 := cell_of_row w1 w.heap.size 1 _ _ _ Yt.out
  have ct2_0 := cell_of_row w1 w.heap.size 2 _ _ _ Yt.out
  simp only [List.getElem?_toArray, List.getElem?_cons_zero, List.getElem?_cons_succ] at ct0_0 ct1_0 ct2_0
  have lt_0 := rowLt Yt.out
  go_enter Try.func14, Try.ntmps14
  go_wp2_with fail
  refine (HR.out).mono ?_
  rintro e w2 ⟨rfl, hw2⟩
  clear ct0_0 ct1_0 ct2_0 lt_0
  have Yt_1 := Lib.hid ((hw2.block _ (rowLt Yt.out)).trans Yt.out)
  have FT_1 := Lib.hid (FT.out.bel hw2)
  have HBW_1 := Lib.hid (bT HB1.out hw2)
  clear hw2
  have ct0_1 := cell_of_row w2 w.heap.size 0 _ _ _ Yt_1.out
  have ct1_1 := cell_of_row w2 w.heap.size 1 _ _ _ Yt_1.out
  have ct2_1 := cell_of_row w2 w.heap.size 2 _ _ _ Yt_1.out
  simp only [List.getElem?_toArray, List.getElem?_cons_zero, List.getElem?_cons_succ] at ct0_1 ct1_1 ct2_1
  have lt_1 := rowLt Yt_1.out
  go_wp2_with fail
  refine (works_ex _).mono ?_
  rintro e w3 ⟨rfl, hw3⟩
  clear ct0_1 ct1_1 ct2_1 lt_1
  have Yt_2 := Lib.hid ((hw3.block _ (rowLt Yt_1.out)).trans Yt_1.out)
  have FT_2 := Lib.hid (FT_1.out.bel hw3)
  have HBW_2 := Lib.hid (bT HBW_1.out hw3)
  clear hw3
  have ct0_2 := cell_of_row w3 w.heap.size 0 _ _ _ Yt_2.out
  have ct1_2 := cell_of_row w3 w.heap.size 1 _ _ _ Yt_2.out
  have ct2_2 := cell_of_row w3 w.heap.size 2 _ _ _ Yt_2.out
  simp only [List.getElem?_toArray, List.getElem?_cons_zero, List.getElem?_cons_succ] at ct0_2 ct1_2 ct2_2
  have lt_2 := rowLt Yt_2.out
  go_wp2_with fail
  go_ret
  exact ⟨rfl, (by repeat (first | exact HBW_2.out | refine bA ?_ _ | refine bd ?_ | refine bD ?_ _))⟩

set_option maxRecDepth 100000 in
set_option maxHeartbeats 32000000 in
theorem turned_none (T : Town) (n : Nat) (p q : Option Addr) (c d : Nat) (w : World) (ht : TownIn w w.heap.size T p q) (hr : rdy T = true) (hn : T.W = n) (hk : kn T = none) (hN : kn T.turn = none) :
    Calls Try.prog 14 #[.agg #[.int .i64 T.W, .slice p T.s.length c, .slice q T.r.length d]] w fun e w' => e = .returned (.bool true) ∧ Below w.heap.size w w' := by
  obtain ⟨w1, hw1, hb1, hz1, y1⟩ := box_row w (.cells #[.int .i64 T.W, .slice p T.s.length c, .slice q T.r.length d] 25)
  have hT1 := ht.bel hb1
  have hrd := ready_any T p q c d w1 hT1
  rw [hr] at hrd
  have HR := Lib.hid hrd; have HB1 := Lib.hid hb1; have Yt := Lib.hid y1; have FT := Lib.hid hT1
  obtain ⟨hok, hW5, hm8⟩ := rdy_ok hr
  have hW := ok_W hok
  have hn6 : n ≤ 6 := by omega
  have htk := turn_ok hok
  have els : T.turn.s.length = T.s.length := by simp [Town.turn]
  have elr : T.turn.r.length = T.r.length := by simp [Town.turn]
  have hcp := fun (V : World) (p q : Option Addr) (c d : Nat) (h : TownIn V V.heap.size T p q) => copy_own T p q c d V (by omega) (by omega) h
  have he1 := fun (V : World) (p q : Option Addr) (c d : Nat) (h : TownIn V V.heap.size T p q) => ends_none T p q c d V hok hk h
  have he2 : ∀ (V : World) (p q : Option Addr) (c d : Nat), TownIn V V.heap.size T.turn p q → Calls Try.prog 47 #[.agg #[.int .i64 T.W, .slice p T.s.length c, .slice q T.r.length d]] V fun e w' => e = .returned (.tuple #[.slice none 0 0, .slice none 0 0, .bool false, .bool true]) ∧ Below V.heap.size V w' := fun V p q c d h => by
    have := ends_none T.turn p q c d V htk hN h
    rw [els, elr] at this
    exact this
  obtain ⟨m, hm⟩ : ∃ m, T.s.length + T.r.length = m := ⟨_, rfl⟩
  have hcl1 := fun (V : World) (p q : Option Addr) (c d : Nat) (h : TownIn V V.heap.size T p q) => clash_any T m p q c d V hok hm h
  have hcl2 : ∀ (V : World) (p q : Option Addr) (c d : Nat), TownIn V V.heap.size T.turn p q → Calls Try.prog 37 #[.agg #[.int .i64 T.W, .slice p T.s.length c, .slice q T.r.length d]] V (ClPost (clR T m) V) := fun V p q c d h => by
    have := clash_any T.turn m p q c d V htk (by rw [els, elr]; exact hm) h
    rw [els, elr, clR_turn hok] at this
    exact this
  have hid1 := fun (V : World) (p q : Option Addr) (c d : Nat) (h : TownIn V V.heap.size T p q) => idle_any T n m p q c d V hok hn hm h
  have hid2 : ∀ (V : World) (p q : Option Addr) (c d : Nat), TownIn V V.heap.size T.turn p q → Calls Try.prog 39 #[.agg #[.int .i64 T.W, .slice p T.s.length c, .slice q T.r.length d]] V (ClPost (idR T n m) V) := fun V p q c d h => by
    have := idle_any T.turn n m p q c d V htk hn (by rw [els, elr]; exact hm) h
    rw [els, elr, idR_turn hok hn6] at this
    exact this
  have hlc := clR_len T m
  have hli := idR_len T n m
  obtain ⟨⟨lc, ec⟩, hc⟩ : ∃ z, clR T m = z := ⟨_, rfl⟩
  obtain ⟨⟨li, ei⟩, hi⟩ : ∃ z, idR T n m = z := ⟨_, rfl⟩
  rw [hc] at hcl1 hcl2 hlc
  rw [hi] at hid1 hid2 hli
  unfold ClPost at hcl1 hcl2 hid1 hid2
  simp only at hlc hli
  have hIc := fun (V : World) (p q : Option Addr) (c d : Nat) (h1 : Ints V p lc) (h2 : Ints V q lc) => same_ints lc lc.length p q c d V rfl (by omega) h1 h2
  have hIi := fun (V : World) (p q : Option Addr) (c d : Nat) (h1 : Ints V p li) (h2 : Ints V q li) => same_ints li li.length p q c d V rfl (by omega) h1 h2
  have HCP := Lib.hid hcp; have HE1 := Lib.hid he1; have HE2 := Lib.hid he2; have HCL1 := Lib.hid hcl1; have HCL2 := Lib.hid hcl2; have HID1 := Lib.hid hid1; have HID2 := Lib.hid hid2; have HIC := Lib.hid hIc; have HII := Lib.hid hIi
  have HOK := Lib.hid hok; have HN := Lib.hid hn
  clear hcp he1 he2 hcl1 hcl2 hid1 hid2 hIc hIi hc hi hlc hli hm els elr htk hrd hb1 hz1 y1 hT1 ht hr hok hn hk hN
  have ct0_0 := cell_of_row w1 w.heap.size 0 _ _ _ Yt.out
  have ct1_0 := cell_of_row w1 w.heap.size 1 _ _ _ Yt.out
  have ct2_0 := cell_of_row w1 w.heap.size 2 _ _ _ Yt.out
  simp only [List.getElem?_toArray, List.getElem?_cons_zero, List.getElem?_cons_succ] at ct0_0 ct1_0 ct2_0
  have lt_0 := rowLt Yt.out
  go_enter Try.func14, Try.ntmps14
  go_wp2_with fail
  refine (HR.out).mono ?_
  rintro e w2 ⟨rfl, hw2⟩
  clear ct0_0 ct1_0 ct2_0 lt_0
  have Yt_1 := Lib.hid ((hw2.block _ (rowLt Yt.out)).trans Yt.out)
  have FT_1 := Lib.hid (FT.out.bel hw2)
  have HBW_1 := Lib.hid (bT HB1.out hw2)
  clear hw2
  have ct0_1 := cell_of_row w2 w.heap.size 0 _ _ _ Yt_1.out
  have ct1_1 := cell_of_row w2 w.heap.size 1 _ _ _ Yt_1.out
  have ct2_1 := cell_of_row w2 w.heap.size 2 _ _ _ Yt_1.out
  simp only [List.getElem?_toArray, List.getElem?_cons_zero, List.getElem?_cons_succ] at ct0_1 ct1_1 ct2_1
  have lt_1 := rowLt Yt_1.out
  go_wp2_with fail
  refine (HCP.out _ _ _ _ _ FT_1.out).mono ?_
  rintro e w6 ⟨p', c', q', d', rfl, hw6, ho6⟩
  have HV6 := Lib.hid hw6
  clear ct0_1 ct1_1 ct2_1 lt_1
  have Yt_2 := Lib.hid ((hw6.block _ (rowLt Yt_1.out)).trans Yt_1.out)
  have FT_2 := Lib.hid (FT_1.out.bel hw6)
  have HBW_2 := Lib.hid (bT HBW_1.out hw6)
  clear hw6
  have ct0_2 := cell_of_row w6 w.heap.size 0 _ _ _ Yt_2.out
  have ct1_2 := cell_of_row w6 w.heap.size 1 _ _ _ Yt_2.out
  have ct2_2 := cell_of_row w6 w.heap.size 2 _ _ _ Yt_2.out
  simp only [List.getElem?_toArray, List.getElem?_cons_zero, List.getElem?_cons_succ] at ct0_2 ct1_2 ct2_2
  have lt_2 := rowLt Yt_2.out
  have FO6 := Lib.hid ho6
  clear ho6
  go_wp2_with fail
  obtain ⟨W6, hW6⟩ : ∃ W6, w6.alloc (Obj.cells #[.int .i64 T.W, (.slice p' T.s.length c'), (.slice q' T.r.length d')] 25) = W6 := ⟨_, rfl⟩
  rw [hW6]
  have hbW6 : Below w6.heap.size w6 W6 := by rw [← hW6]; exact bA (Below.refl _ _) _
  have yW6 : W6.heap[w6.heap.size]? = some (.cells #[.int .i64 T.W, (.slice p' T.s.length c'), (.slice q' T.r.length d')] 25 (0, 0)) := by rw [← hW6]; exact heap_alloc_new _ _
  have YW6 := Lib.hid yW6
  have HBXW6 := Lib.hid hbW6
  clear hW6 yW6
  clear ct0_2 ct1_2 ct2_2 lt_2
  have Yt_3 := Lib.hid ((hbW6.block _ (rowLt Yt_2.out)).trans Yt_2.out)
  have FT_3 := Lib.hid (FT_2.out.bel hbW6)
  have FO_3 := Lib.hid (FO6.out.below hbW6)
  have HBW_3 := Lib.hid (bT HBW_2.out hbW6)
  clear hbW6
  have ct0_3 := cell_of_row W6 w.heap.size 0 _ _ _ Yt_3.out
  have ct1_3 := cell_of_row W6 w.heap.size 1 _ _ _ Yt_3.out
  have ct2_3 := cell_of_row W6 w.heap.size 2 _ _ _ Yt_3.out
  simp only [List.getElem?_toArray, List.getElem?_cons_zero, List.getElem?_cons_succ] at ct0_3 ct1_3 ct2_3
  have lt_3 := rowLt Yt_3.out
  clear ct0_3 ct1_3 ct2_3 lt_3
  have ct0_3 := cell_of_row W6 w.heap.size 0 _ _ _ Yt_3.out
  have ct1_3 := cell_of_row W6 w.heap.size 1 _ _ _ Yt_3.out
  have ct2_3 := cell_of_row W6 w.heap.size 2 _ _ _ Yt_3.out
  have co0_3 := cell_of_row W6 w6.heap.size 0 _ _ _ YW6.out
  have co1_3 := cell_of_row W6 w6.heap.size 1 _ _ _ YW6.out
  have co2_3 := cell_of_row W6 w6.heap.size 2 _ _ _ YW6.out
  simp only [List.getElem?_toArray, List.getElem?_cons_zero, List.getElem?_cons_succ] at ct0_3 ct1_3 ct2_3 co0_3 co1_3 co2_3
  have lt_3 := rowLt Yt_3.out
  have lo_3 := rowLt YW6.out
  go_wp2_with fail
  clear ct0_3 ct1_3 ct2_3 co0_3 co1_3 co2_3 lt_3 lo_3
  go_loopw [4] (fun i ws => ∃ k : Nat, i = .int .i64 k ∧ k ≤ T.s.length ∧ ws.ownsRow (w2.heap.size + 2) 62 3 (.slice p' T.s.length c') T.s.length (flatS (dkF turnS T.s k)) ∧ ws.ownsRow (w2.heap.size + 2) 58 4 (.slice q' T.r.length d') T.r.length (flatR (T.r)) ∧ ws.heap[w6.heap.size]? = some (.cells #[.int .i64 T.W, .slice p' T.s.length c', .slice q' T.r.length d'] 25 (0, 0)) ∧ Below w2.heap.size w2 ws) (fun i _ => T.s.length - (intOf i).toNat)
  case atStart => exact ⟨0, rfl, Nat.zero_le _, by rw [dkF_zero]; exact FO_3.out.s, FO_3.out.r, YW6.out, bT HV6.out HBXW6.out⟩
  case round =>
    obtain ⟨k, rfl, hk, hos, hor, hro, hbs⟩ := hrel
    rename World => ws
    have HOS := Lib.hid hos; have HOR := Lib.hid hor; have Yo2 := Lib.hid hro; have HBS := Lib.hid hbs
    clear hos hor hro
    have Yt_21 := Lib.hid ((hbs.block _ (rowLt Yt_1.out)).trans Yt_1.out)
    have FT_21 := Lib.hid (FT_1.out.bel hbs)
    have HBW_21 := Lib.hid (bT HBW_1.out hbs)
    clear hbs
    have ct0_21 := cell_of_row ws w.heap.size 0 _ _ _ Yt_21.out
    have ct1_21 := cell_of_row ws w.heap.size 1 _ _ _ Yt_21.out
    have ct2_21 := cell_of_row ws w.heap.size 2 _ _ _ Yt_21.out
    simp only [List.getElem?_toArray, List.getElem?_cons_zero, List.getElem?_cons_succ] at ct0_21 ct1_21 ct2_21
    have lt_21 := rowLt Yt_21.out
    clear ct0_21 ct1_21 ct2_21 lt_21
    have ct0_21 := cell_of_row ws w.heap.size 0 _ _ _ Yt_21.out
    have ct1_21 := cell_of_row ws w.heap.size 1 _ _ _ Yt_21.out
    have ct2_21 := cell_of_row ws w.heap.size 2 _ _ _ Yt_21.out
    have co0_21 := cell_of_row ws w6.heap.size 0 _ _ _ Yo2.out
    have co1_21 := cell_of_row ws w6.heap.size 1 _ _ _ Yo2.out
    have co2_21 := cell_of_row ws w6.heap.size 2 _ _ _ Yo2.out
    simp only [List.getElem?_toArray, List.getElem?_cons_zero, List.getElem?_cons_succ] at ct0_21 ct1_21 ct2_21 co0_21 co1_21 co2_21
    have lt_21 := rowLt Yt_21.out
    have lo_21 := rowLt Yo2.out
    by_cases hlt : k < T.s.length
    · obtain ⟨b', o', rfl, hbl, hsn⟩ := FT_21.out.s (by omega)
      have e0 := hsn.c0 k hlt
      have e1 := hsn.c1 k hlt
      have e2 := hsn.c2 k hlt
      clear hsn
      have ho := ok_sOk HOK.out (List.getElem_mem hlt)
      obtain ⟨x0, hx0⟩ : ∃ z, T.s[k].well = z := ⟨_, rfl⟩
      rw [hx0] at e0 ho
      obtain ⟨x1, hx1⟩ : ∃ z, T.s[k].low = z := ⟨_, rfl⟩
      rw [hx1] at e1 ho
      obtain ⟨x2, hx2⟩ : ∃ z, T.s[k].high = z := ⟨_, rfl⟩
      rw [hx2] at e2 ho
      have HX := Lib.hid (show turnS T.s[k] = ⟨x0, 99 - x2, 99 - x1⟩ by simp only [turnS, hx0, hx1, hx2])
      obtain ⟨g, rfl, hbg, hlg⟩ := own_ptr HOS.out (by omega)
      have f := flatS_at (dkF turnS T.s k) k (by rw [dkF_len]; exact hlt)
      have j0 := (HOS.out.cellAt (k * 3) (by omega)).trans f.1
      have j1 := (HOS.out.cellAt (k * 3 + 1) (by omega)).trans f.2.1
      have j2 := (HOS.out.cellAt (k * 3 + 2) (by omega)).trans f.2.2
      have jf := HOS.out.frozenAt
      clear f hx0 hx1 hx2
      go_wp2_with fail
      go_roundw
      case rel =>
        obtain ⟨wz, hwz, o1, gr, bl⟩ := own_snd_set HOS.out (dkF_len _ _ _) k hlt x0 (99 - x2) (99 - x1)
        rw [hwz]
        have hro := (Below.heap_alloc _ (Obj.cells #[.int .i64 x0, .int .i64 x1, .int .i64 x2] 62) _ (Nat.lt_of_lt_of_le (rowLt Yo2.out) gr.size)).trans ((gr.block _ (rowLt Yo2.out) (own_ne_box HOS.out Yo2.out (by decide))).trans Yo2.out)
        refine ⟨k + 1, by go_num, hlt, ?_, ?_, hro, bA (bl w2 (by omega) HBS.out) _⟩
        · rw [dkF_succ _ _ _ hlt, HX.out]
          exact o1.alloc _
        · exact (HOR.out.kept gr (own_ne HOR.out HOS.out (by decide))).alloc _
      case measure => simp [intOf]; omega
    · obtain rfl : k = T.s.length := by omega
      clear hlt hk
      have HOS1 := HOS; have HOR1 := HOR; have Yo1 := Yo2; have HBS1 := HBS
      clear HOS HOR HBS
      go_wp2_with fail
      clear ct0_21 ct1_21 ct2_21 co0_21 co1_21 co2_21 lt_21 lo_21
      go_loopw [6] (fun i ws => ∃ k : Nat, i = .int .i64 k ∧ k ≤ T.r.length ∧ ws.ownsRow (w2.heap.size + 2) 62 3 (.slice p' T.s.length c') T.s.length (flatS (dkF turnS T.s T.s.length)) ∧ ws.ownsRow (w2.heap.size + 2) 58 4 (.slice q' T.r.length d') T.r.length (flatR (dkF turnR T.r k)) ∧ ws.heap[w6.heap.size]? = some (.cells #[.int .i64 T.W, .slice p' T.s.length c', .slice q' T.r.length d'] 25 (0, 0)) ∧ Below w2.heap.size w2 ws) (fun i _ => T.r.length - (intOf i).toNat)
      case atStart => exact ⟨0, rfl, Nat.zero_le _, HOS1.out, by rw [dkF_zero]; exact HOR1.out, Yo1.out, HBS1.out⟩
      case round =>
        obtain ⟨k, rfl, hk, hos, hor, hro, hbs⟩ := hrel
        rename World => wt
        have HOS := Lib.hid hos; have HOR := Lib.hid hor; have Yo2 := Lib.hid hro; have HBS := Lib.hid hbs
        clear hos hor hro
        have Yt_51 := Lib.hid ((hbs.block _ (rowLt Yt_1.out)).trans Yt_1.out)
        have FT_51 := Lib.hid (FT_1.out.bel hbs)
        have HBW_51 := Lib.hid (bT HBW_1.out hbs)
        clear hbs
        have ct0_51 := cell_of_row wt w.heap.size 0 _ _ _ Yt_51.out
        have ct1_51 := cell_of_row wt w.heap.size 1 _ _ _ Yt_51.out
        have ct2_51 := cell_of_row wt w.heap.size 2 _ _ _ Yt_51.out
        simp only [List.getElem?_toArray, List.getElem?_cons_zero, List.getElem?_cons_succ] at ct0_51 ct1_51 ct2_51
        have lt_51 := rowLt Yt_51.out
        clear ct0_51 ct1_51 ct2_51 lt_51
        have ct0_51 := cell_of_row wt w.heap.size 0 _ _ _ Yt_51.out
        have ct1_51 := cell_of_row wt w.heap.size 1 _ _ _ Yt_51.out
        have ct2_51 := cell_of_row wt w.heap.size 2 _ _ _ Yt_51.out
        have co0_51 := cell_of_row wt w6.heap.size 0 _ _ _ Yo2.out
        have co1_51 := cell_of_row wt w6.heap.size 1 _ _ _ Yo2.out
        have co2_51 := cell_of_row wt w6.heap.size 2 _ _ _ Yo2.out
        simp only [List.getElem?_toArray, List.getElem?_cons_zero, List.getElem?_cons_succ] at ct0_51 ct1_51 ct2_51 co0_51 co1_51 co2_51
        have lt_51 := rowLt Yt_51.out
        have lo_51 := rowLt Yo2.out
        by_cases hlt : k < T.r.length
        · obtain ⟨b', o', rfl, hbl, hsn⟩ := FT_51.out.r (by omega)
          have e0 := hsn.c0 k hlt
          have e1 := hsn.c1 k hlt
          have e2 := hsn.c2 k hlt
          have e3 := hsn.c3 k hlt
          clear hsn
          have ho := ok_rOk HOK.out (List.getElem_mem hlt)
          obtain ⟨x0, hx0⟩ : ∃ z, T.r[k].a = z := ⟨_, rfl⟩
          rw [hx0] at e0 ho
          obtain ⟨x1, hx1⟩ : ∃ z, T.r[k].b = z := ⟨_, rfl⟩
          rw [hx1] at e1 ho
          obtain ⟨x2, hx2⟩ : ∃ z, T.r[k].low = z := ⟨_, rfl⟩
          rw [hx2] at e2 ho
          obtain ⟨x3, hx3⟩ : ∃ z, T.r[k].high = z := ⟨_, rfl⟩
          rw [hx3] at e3 ho
          have HX := Lib.hid (show turnR T.r[k] = ⟨x1, x0, x2, x3⟩ by simp only [turnR, hx0, hx1, hx2, hx3])
          obtain ⟨g, rfl, hbg, hlg⟩ := own_ptr HOR.out (by omega)
          have f := flatR_at (dkF turnR T.r k) k (by rw [dkF_len]; exact hlt)
          have j0 := (HOR.out.cellAt (k * 4) (by omega)).trans f.1
          have j1 := (HOR.out.cellAt (k * 4 + 1) (by omega)).trans f.2.1
          have j2 := (HOR.out.cellAt (k * 4 + 2) (by omega)).trans f.2.2.1
          have j3 := (HOR.out.cellAt (k * 4 + 3) (by omega)).trans f.2.2.2
          have jf := HOR.out.frozenAt
          clear f hx0 hx1 hx2 hx3
          go_wp2_with fail
          go_roundw
          case rel =>
            obtain ⟨wz, hwz, o1, gr, bl⟩ := own_slp_set HOR.out (dkF_len _ _ _) k hlt x1 x0 x2 x3
            rw [hwz]
            have hro := (Below.heap_alloc _ (Obj.cells #[.int .i64 x0, .int .i64 x1, .int .i64 x2, .int .i64 x3] 58) _ (Nat.lt_of_lt_of_le (rowLt Yo2.out) gr.size)).trans ((gr.block _ (rowLt Yo2.out) (own_ne_box HOR.out Yo2.out (by decide))).trans Yo2.out)
            refine ⟨k + 1, by go_num, hlt, ?_, ?_, hro, bA (bl w2 (by omega) HBS.out) _⟩
            · exact (HOS.out.kept gr (own_ne HOS.out HOR.out (by decide))).alloc _
            · rw [dkF_succ _ _ _ hlt, HX.out]
              exact o1.alloc _
          case measure => simp [intOf]; omega
        · obtain rfl : k = T.r.length := by omega
          clear hlt hk
          have hTD : TownIn wt wt.heap.size T.turn p' q' := by rw [turn_eq]; exact ⟨sndAt_own (by rw [dkF_len]; exact HOS.out), slpAt_own (by rw [dkF_len]; exact HOR.out)⟩
          have FD := Lib.hid hTD
          clear hTD
          go_wp2_with fail
          refine (HE1.out _ _ _ _ _ FT_51.out).mono ?_
          rintro e w8 ⟨rfl, hw8⟩
          clear ct0_51 ct1_51 ct2_51 co0_51 co1_51 co2_51 lt_51 lo_51
          have Yt_52 := Lib.hid ((hw8.block _ (rowLt Yt_51.out)).trans Yt_51.out)
          have Yo_52 := Lib.hid ((hw8.block _ (rowLt Yo2.out)).trans Yo2.out)
          have FT_52 := Lib.hid (FT_51.out.bel hw8)
          have FD_52 := Lib.hid (FD.out.bel hw8)
          have HBW_52 := Lib.hid (bT HBW_51.out hw8)
          clear hw8
          have ct0_52 := cell_of_row w8 w.heap.size 0 _ _ _ Yt_52.out
          have ct1_52 := cell_of_row w8 w.heap.size 1 _ _ _ Yt_52.out
          have ct2_52 := cell_of_row w8 w.heap.size 2 _ _ _ Yt_52.out
          have co0_52 := cell_of_row w8 w6.heap.size 0 _ _ _ Yo_52.out
          have co1_52 := cell_of_row w8 w6.heap.size 1 _ _ _ Yo_52.out
          have co2_52 := cell_of_row w8 w6.heap.size 2 _ _ _ Yo_52.out
          simp only [List.getElem?_toArray, List.getElem?_cons_zero, List.getElem?_cons_succ] at ct0_52 ct1_52 ct2_52 co0_52 co1_52 co2_52
          have lt_52 := rowLt Yt_52.out
          have lo_52 := rowLt Yo_52.out
          go_wp2_with fail
          refine (HE2.out _ _ _ _ _ FD_52.out).mono ?_
          rintro e w9 ⟨rfl, hw9⟩
          clear ct0_52 ct1_52 ct2_52 co0_52 co1_52 co2_52 lt_52 lo_52
          have Yt_53 := Lib.hid ((hw9.block _ (rowLt Yt_52.out)).trans Yt_52.out)
          have Yo_53 := Lib.hid ((hw9.block _ (rowLt Yo_52.out)).trans Yo_52.out)
          have FT_53 := Lib.hid (FT_52.out.bel hw9)
          have FD_53 := Lib.hid (FD_52.out.bel hw9)
          have HBW_53 := Lib.hid (bT HBW_52.out hw9)
          clear hw9
          have ct0_53 := cell_of_row w9 w.heap.size 0 _ _ _ Yt_53.out
          have ct1_53 := cell_of_row w9 w.heap.size 1 _ _ _ Yt_53.out
          have ct2_53 := cell_of_row w9 w.heap.size 2 _ _ _ Yt_53.out
          have co0_53 := cell_of_row w9 w6.heap.size 0 _ _ _ Yo_53.out
          have co1_53 := cell_of_row w9 w6.heap.size 1 _ _ _ Yo_53.out
          have co2_53 := cell_of_row w9 w6.heap.size 2 _ _ _ Yo_53.out
          simp only [List.getElem?_toArray, List.getElem?_cons_zero, List.getElem?_cons_succ] at ct0_53 ct1_53 ct2_53 co0_53 co1_53 co2_53
          have lt_53 := rowLt Yt_53.out
          have lo_53 := rowLt Yo_53.out
          go_wp2_with fail
          refine (HCL1.out _ _ _ _ _ FT_53.out).mono ?_
          rintro e w10 ⟨p5, c5, rfl, hi5, hw10⟩
          clear ct0_53 ct1_53 ct2_53 co0_53 co1_53 co2_53 lt_53 lo_53
          have Yt_54 := Lib.hid ((hw10.block _ (rowLt Yt_53.out)).trans Yt_53.out)
          have Yo_54 := Lib.hid ((hw10.block _ (rowLt Yo_53.out)).trans Yo_53.out)
          have FT_54 := Lib.hid (FT_53.out.bel hw10)
          have FD_54 := Lib.hid (FD_53.out.bel hw10)
          have HBW_54 := Lib.hid (bT HBW_53.out hw10)
          clear hw10
          have ct0_54 := cell_of_row w10 w.heap.size 0 _ _ _ Yt_54.out
          have ct1_54 := cell_of_row w10 w.heap.size 1 _ _ _ Yt_54.out
          have ct2_54 := cell_of_row w10 w.heap.size 2 _ _ _ Yt_54.out
          have co0_54 := cell_of_row w10 w6.heap.size 0 _ _ _ Yo_54.out
          have co1_54 := cell_of_row w10 w6.heap.size 1 _ _ _ Yo_54.out
          have co2_54 := cell_of_row w10 w6.heap.size 2 _ _ _ Yo_54.out
          simp only [List.getElem?_toArray, List.getElem?_cons_zero, List.getElem?_cons_succ] at ct0_54 ct1_54 ct2_54 co0_54 co1_54 co2_54
          have lt_54 := rowLt Yt_54.out
          have lo_54 := rowLt Yo_54.out
          have FK10 := Lib.hid hi5
          clear hi5
          go_wp2_with fail
          refine (HCL2.out _ _ _ _ _ FD_54.out).mono ?_
          rintro e w11 ⟨p6, c6, rfl, hi6, hw11⟩
          clear ct0_54 ct1_54 ct2_54 co0_54 co1_54 co2_54 lt_54 lo_54
          have Yt_55 := Lib.hid ((hw11.block _ (rowLt Yt_54.out)).trans Yt_54.out)
          have Yo_55 := Lib.hid ((hw11.block _ (rowLt Yo_54.out)).trans Yo_54.out)
          have FT_55 := Lib.hid (FT_54.out.bel hw11)
          have FD_55 := Lib.hid (FD_54.out.bel hw11)
          have Fk_55 := Lib.hid (FK10.out.below hw11)
          have HBW_55 := Lib.hid (bT HBW_54.out hw11)
          clear hw11
          have ct0_55 := cell_of_row w11 w.heap.size 0 _ _ _ Yt_55.out
          have ct1_55 := cell_of_row w11 w.heap.size 1 _ _ _ Yt_55.out
          have ct2_55 := cell_of_row w11 w.heap.size 2 _ _ _ Yt_55.out
          have co0_55 := cell_of_row w11 w6.heap.size 0 _ _ _ Yo_55.out
          have co1_55 := cell_of_row w11 w6.heap.size 1 _ _ _ Yo_55.out
          have co2_55 := cell_of_row w11 w6.heap.size 2 _ _ _ Yo_55.out
          simp only [List.getElem?_toArray, List.getElem?_cons_zero, List.getElem?_cons_succ] at ct0_55 ct1_55 ct2_55 co0_55 co1_55 co2_55
          have lt_55 := rowLt Yt_55.out
          have lo_55 := rowLt Yo_55.out
          have FL11 := Lib.hid hi6
          clear hi6
          go_wp2_with fail
          refine (HID1.out _ _ _ _ _ FT_55.out).mono ?_
          rintro e w12 ⟨p7, c7, rfl, hi7, hw12⟩
          clear ct0_55 ct1_55 ct2_55 co0_55 co1_55 co2_55 lt_55 lo_55
          have Yt_56 := Lib.hid ((hw12.block _ (rowLt Yt_55.out)).trans Yt_55.out)
          have Yo_56 := Lib.hid ((hw12.block _ (rowLt Yo_55.out)).trans Yo_55.out)
          have FT_56 := Lib.hid (FT_55.out.bel hw12)
          have FD_56 := Lib.hid (FD_55.out.bel hw12)
          have Fk_56 := Lib.hid (Fk_55.out.below hw12)
          have Fl_56 := Lib.hid (FL11.out.below hw12)
          have HBW_56 := Lib.hid (bT HBW_55.out hw12)
          clear hw12
          have ct0_56 := cell_of_row w12 w.heap.size 0 _ _ _ Yt_56.out
          have ct1_56 := cell_of_row w12 w.heap.size 1 _ _ _ Yt_56.out
          have ct2_56 := cell_of_row w12 w.heap.size 2 _ _ _ Yt_56.out
          have co0_56 := cell_of_row w12 w6.heap.size 0 _ _ _ Yo_56.out
          have co1_56 := cell_of_row w12 w6.heap.size 1 _ _ _ Yo_56.out
          have co2_56 := cell_of_row w12 w6.heap.size 2 _ _ _ Yo_56.out
          simp only [List.getElem?_toArray, List.getElem?_cons_zero, List.getElem?_cons_succ] at ct0_56 ct1_56 ct2_56 co0_56 co1_56 co2_56
          have lt_56 := rowLt Yt_56.out
          have lo_56 := rowLt Yo_56.out
          have FM12 := Lib.hid hi7
          clear hi7
          go_wp2_with fail
          refine (HID2.out _ _ _ _ _ FD_56.out).mono ?_
          rintro e w13 ⟨p8, c8, rfl, hi8, hw13⟩
          clear ct0_56 ct1_56 ct2_56 co0_56 co1_56 co2_56 lt_56 lo_56
          have Yt_57 := Lib.hid ((hw13.block _ (rowLt Yt_56.out)).trans Yt_56.out)
          have Yo_57 := Lib.hid ((hw13.block _ (rowLt Yo_56.out)).trans Yo_56.out)
          have FT_57 := Lib.hid (FT_56.out.bel hw13)
          have FD_57 := Lib.hid (FD_56.out.bel hw13)
          have Fk_57 := Lib.hid (Fk_56.out.below hw13)
          have Fl_57 := Lib.hid (Fl_56.out.below hw13)
          have Fm_57 := Lib.hid (FM12.out.below hw13)
          have HBW_57 := Lib.hid (bT HBW_56.out hw13)
          clear hw13
          have ct0_57 := cell_of_row w13 w.heap.size 0 _ _ _ Yt_57.out
          have ct1_57 := cell_of_row w13 w.heap.size 1 _ _ _ Yt_57.out
          have ct2_57 := cell_of_row w13 w.heap.size 2 _ _ _ Yt_57.out
          have co0_57 := cell_of_row w13 w6.heap.size 0 _ _ _ Yo_57.out
          have co1_57 := cell_of_row w13 w6.heap.size 1 _ _ _ Yo_57.out
          have co2_57 := cell_of_row w13 w6.heap.size 2 _ _ _ Yo_57.out
          simp only [List.getElem?_toArray, List.getElem?_cons_zero, List.getElem?_cons_succ] at ct0_57 ct1_57 ct2_57 co0_57 co1_57 co2_57
          have lt_57 := rowLt Yt_57.out
          have lo_57 := rowLt Yo_57.out
          have FN13 := Lib.hid hi8
          clear hi8
          go_wp2_with fail
          refine (HIC.out _ _ _ _ _ Fk_57.out Fl_57.out).mono ?_
          rintro e w14 ⟨rfl, hw14⟩
          clear ct0_57 ct1_57 ct2_57 co0_57 co1_57 co2_57 lt_57 lo_57
          have Yt_58 := Lib.hid ((hw14.block _ (rowLt Yt_57.out)).trans Yt_57.out)
          have Yo_58 := Lib.hid ((hw14.block _ (rowLt Yo_57.out)).trans Yo_57.out)
          have FT_58 := Lib.hid (FT_57.out.bel hw14)
          have FD_58 := Lib.hid (FD_57.out.bel hw14)
          have Fk_58 := Lib.hid (Fk_57.out.below hw14)
          have Fl_58 := Lib.hid (Fl_57.out.below hw14)
          have Fm_58 := Lib.hid (Fm_57.out.below hw14)
          have Fn_58 := Lib.hid (FN13.out.below hw14)
          have HBW_58 := Lib.hid (bT HBW_57.out hw14)
          clear hw14
          have ct0_58 := cell_of_row w14 w.heap.size 0 _ _ _ Yt_58.out
          have ct1_58 := cell_of_row w14 w.heap.size 1 _ _ _ Yt_58.out
          have ct2_58 := cell_of_row w14 w.heap.size 2 _ _ _ Yt_58.out
          have co0_58 := cell_of_row w14 w6.heap.size 0 _ _ _ Yo_58.out
          have co1_58 := cell_of_row w14 w6.heap.size 1 _ _ _ Yo_58.out
          have co2_58 := cell_of_row w14 w6.heap.size 2 _ _ _ Yo_58.out
          simp only [List.getElem?_toArray, List.getElem?_cons_zero, List.getElem?_cons_succ] at ct0_58 ct1_58 ct2_58 co0_58 co1_58 co2_58
          have lt_58 := rowLt Yt_58.out
          have lo_58 := rowLt Yo_58.out
          go_wp2_with fail
          refine (HII.out _ _ _ _ _ Fm_58.out Fn_58.out).mono ?_
          rintro e w15 ⟨rfl, hw15⟩
          clear ct0_58 ct1_58 ct2_58 co0_58 co1_58 co2_58 lt_58 lo_58
          have Yt_59 := Lib.hid ((hw15.block _ (rowLt Yt_58.out)).trans Yt_58.out)
          have Yo_59 := Lib.hid ((hw15.block _ (rowLt Yo_58.out)).trans Yo_58.out)
          have FT_59 := Lib.hid (FT_58.out.bel hw15)
          have FD_59 := Lib.hid (FD_58.out.bel hw15)
          have Fk_59 := Lib.hid (Fk_58.out.below hw15)
          have Fl_59 := Lib.hid (Fl_58.out.below hw15)
          have Fm_59 := Lib.hid (Fm_58.out.below hw15)
          have Fn_59 := Lib.hid (Fn_58.out.below hw15)
          have HBW_59 := Lib.hid (bT HBW_58.out hw15)
          clear hw15
          have ct0_59 := cell_of_row w15 w.heap.size 0 _ _ _ Yt_59.out
          have ct1_59 := cell_of_row w15 w.heap.size 1 _ _ _ Yt_59.out
          have ct2_59 := cell_of_row w15 w.heap.size 2 _ _ _ Yt_59.out
          have co0_59 := cell_of_row w15 w6.heap.size 0 _ _ _ Yo_59.out
          have co1_59 := cell_of_row w15 w6.heap.size 1 _ _ _ Yo_59.out
          have co2_59 := cell_of_row w15 w6.heap.size 2 _ _ _ Yo_59.out
          simp only [List.getElem?_toArray, List.getElem?_cons_zero, List.getElem?_cons_succ] at ct0_59 ct1_59 ct2_59 co0_59 co1_59 co2_59
          have lt_59 := rowLt Yt_59.out
          have lo_59 := rowLt Yo_59.out
          go_wp2_with fail
          clear ct0_59 ct1_59 ct2_59 co0_59 co1_59 co2_59 lt_59 lo_59
          go_loopw [24] (fun i wq => i = .int .i64 0 ∧ Below w15.heap.size w15 wq) (fun _ _ => 0)
          case atStart => exact ⟨rfl, Below.refl _ _⟩
          case round =>
            obtain ⟨rfl, hbq⟩ := hrel
            rename World => wq
            have HBQ := Lib.hid hbq
            have Yt_60 := Lib.hid ((hbq.block _ (rowLt Yt_59.out)).trans Yt_59.out)
            have Yo_60 := Lib.hid ((hbq.block _ (rowLt Yo_59.out)).trans Yo_59.out)
            have FT_60 := Lib.hid (FT_59.out.bel hbq)
            have FD_60 := Lib.hid (FD_59.out.bel hbq)
            have Fk_60 := Lib.hid (Fk_59.out.below hbq)
            have Fl_60 := Lib.hid (Fl_59.out.below hbq)
            have Fm_60 := Lib.hid (Fm_59.out.below hbq)
            have Fn_60 := Lib.hid (Fn_59.out.below hbq)
            have HBW_60 := Lib.hid (bT HBW_59.out hbq)
            clear hbq
            have ct0_60 := cell_of_row wq w.heap.size 0 _ _ _ Yt_60.out
            have ct1_60 := cell_of_row wq w.heap.size 1 _ _ _ Yt_60.out
            have ct2_60 := cell_of_row wq w.heap.size 2 _ _ _ Yt_60.out
            have co0_60 := cell_of_row wq w6.heap.size 0 _ _ _ Yo_60.out
            have co1_60 := cell_of_row wq w6.heap.size 1 _ _ _ Yo_60.out
            have co2_60 := cell_of_row wq w6.heap.size 2 _ _ _ Yo_60.out
            simp only [List.getElem?_toArray, List.getElem?_cons_zero, List.getElem?_cons_succ] at ct0_60 ct1_60 ct2_60 co0_60 co1_60 co2_60
            have lt_60 := rowLt Yt_60.out
            have lo_60 := rowLt Yo_60.out
            by_cases h0 : 0 < T.W
            · have gg : decide (0 < T.W) = true := decide_eq_true h0
              clear h0
              go_wp2_with fail
              refine (works_ex _).mono ?_
              rintro e w20 ⟨rfl, hw20⟩
              clear ct0_60 ct1_60 ct2_60 co0_60 co1_60 co2_60 lt_60 lo_60
              have Yt_61 := Lib.hid ((hw20.block _ (rowLt Yt_60.out)).trans Yt_60.out)
              have Yo_61 := Lib.hid ((hw20.block _ (rowLt Yo_60.out)).trans Yo_60.out)
              have FT_61 := Lib.hid (FT_60.out.bel hw20)
              have FD_61 := Lib.hid (FD_60.out.bel hw20)
              have Fk_61 := Lib.hid (Fk_60.out.below hw20)
              have Fl_61 := Lib.hid (Fl_60.out.below hw20)
              have Fm_61 := Lib.hid (Fm_60.out.below hw20)
              have Fn_61 := Lib.hid (Fn_60.out.below hw20)
              have HBW_61 := Lib.hid (bT HBW_60.out hw20)
              clear hw20
              have ct0_61 := cell_of_row w20 w.heap.size 0 _ _ _ Yt_61.out
              have ct1_61 := cell_of_row w20 w.heap.size 1 _ _ _ Yt_61.out
              have ct2_61 := cell_of_row w20 w.heap.size 2 _ _ _ Yt_61.out
              have co0_61 := cell_of_row w20 w6.heap.size 0 _ _ _ Yo_61.out
              have co1_61 := cell_of_row w20 w6.heap.size 1 _ _ _ Yo_61.out
              have co2_61 := cell_of_row w20 w6.heap.size 2 _ _ _ Yo_61.out
              simp only [List.getElem?_toArray, List.getElem?_cons_zero, List.getElem?_cons_succ] at ct0_61 ct1_61 ct2_61 co0_61 co1_61 co2_61
              have lt_61 := rowLt Yt_61.out
              have lo_61 := rowLt Yo_61.out
              go_wp2_with fail
              go_ret
              exact ⟨rfl, (by repeat (first | exact HBW_61.out | refine bA ?_ _ | refine bd ?_ | refine bD ?_ _))⟩
            · have gg : decide (0 < T.W) = false := decide_eq_false h0
              clear h0
              go_wp2_with fail
              refine (works_ex _).mono ?_
              rintro e w20 ⟨rfl, hw20⟩
              clear ct0_60 ct1_60 ct2_60 co0_60 co1_60 co2_60 lt_60 lo_60
              have Yt_61 := Lib.hid ((hw20.block _ (rowLt Yt_60.out)).trans Yt_60.out)
              have Yo_61 := Lib.hid ((hw20.block _ (rowLt Yo_60.out)).trans Yo_60.out)
              have FT_61 := Lib.hid (FT_60.out.bel hw20)
              have FD_61 := Lib.hid (FD_60.out.bel hw20)
              have Fk_61 := Lib.hid (Fk_60.out.below hw20)
              have Fl_61 := Lib.hid (Fl_60.out.below hw20)
              have Fm_61 := Lib.hid (Fm_60.out.below hw20)
              have Fn_61 := Lib.hid (Fn_60.out.below hw20)
              have HBW_61 := Lib.hid (bT HBW_60.out hw20)
              clear hw20
              have ct0_61 := cell_of_row w20 w.heap.size 0 _ _ _ Yt_61.out
              have ct1_61 := cell_of_row w20 w.heap.size 1 _ _ _ Yt_61.out
              have ct2_61 := cell_of_row w20 w.heap.size 2 _ _ _ Yt_61.out
              have co0_61 := cell_of_row w20 w6.heap.size 0 _ _ _ Yo_61.out
              have co1_61 := cell_of_row w20 w6.heap.size 1 _ _ _ Yo_61.out
              have co2_61 := cell_of_row w20 w6.heap.size 2 _ _ _ Yo_61.out
              simp only [List.getElem?_toArray, List.getElem?_cons_zero, List.getElem?_cons_succ] at ct0_61 ct1_61 ct2_61 co0_61 co1_61 co2_61
              have lt_61 := rowLt Yt_61.out
              have lo_61 := rowLt Yo_61.out
              go_wp2_with fail
              go_ret
              exact ⟨rfl, (by repeat (first | exact HBW_61.out | refine bA ?_ _ | refine bd ?_ | refine bD ?_ _))⟩

set_option maxRecDepth 100000 in
set_option maxHeartbeats 32000000 in
theorem turned_some (T : Town) (M N : List Int) (n : Nat) (p q : Option Addr) (c d : Nat) (w : World) (ht : TownIn w w.heap.size T p q) (hr : rdy T = true) (hn : T.W = n) (hk : kn T = some M) (hN : kn T.turn = some N)
    (cM : Clo M) (cN : Clo N) (hd : ∀ i, i < n → D N 0 (i + 1) = 99 + D M (i + 1) 0 ∧ D N (i + 1) 0 = D M 0 (i + 1) - 99) :
    Calls Try.prog 14 #[.agg #[.int .i64 T.W, .slice p T.s.length c, .slice q T.r.length d]] w fun e w' => e = .returned (.bool true) ∧ Below w.heap.size w w' := by
  obtain ⟨w1, hw1, hb1, hz1, y1⟩ := box_row w (.cells #[.int .i64 T.W, .slice p T.s.length c, .slice q T.r.length d] 25)
  have hT1 := ht.bel hb1
  have hrd := ready_any T p q c d w1 hT1
  rw [hr] at hrd
  have HR := Lib.hid hrd; have HB1 := Lib.hid hb1; have Yt := Lib.hid y1; have FT := Lib.hid hT1
  obtain ⟨hok, hW5, hm8⟩ := rdy_ok hr
  have hW := ok_W hok
  have hn6 : n ≤ 6 := by omega
  have htk := turn_ok hok
  have els : T.turn.s.length = T.s.length := by simp [Town.turn]
  have elr : T.turn.r.length = T.r.length := by simp [Town.turn]
  have hcp := fun (V : World) (p q : Option Addr) (c d : Nat) (h : TownIn V V.heap.size T p q) => copy_own T p q c d V (by omega) (by omega) h
  have he1 := fun (V : World) (p q : Option Addr) (c d : Nat) (h : TownIn V V.heap.size T p q) => ends_some T M n p q c d V hok hk hn h
  have he2 : ∀ (V : World) (p q : Option Addr) (c d : Nat), TownIn V V.heap.size T.turn p q → Calls Try.prog 47 #[.agg #[.int .i64 T.W, .slice p T.s.length c, .slice q T.r.length d]] V fun e w' => ∃ p1 c1 p2 c2, e = .returned (.tuple #[.slice p1 n c1, .slice p2 n c2, .bool true, .bool true]) ∧ Ints w' p1 (lows N n) ∧ Ints w' p2 (highs N n) ∧ Below V.heap.size V w' := fun V p q c d h => by
    have := ends_some T.turn N n p q c d V htk hN hn h
    rw [els, elr] at this
    exact this
  obtain ⟨m, hm⟩ : ∃ m, T.s.length + T.r.length = m := ⟨_, rfl⟩
  have hcl1 := fun (V : World) (p q : Option Addr) (c d : Nat) (h : TownIn V V.heap.size T p q) => clash_any T m p q c d V hok hm h
  have hcl2 : ∀ (V : World) (p q : Option Addr) (c d : Nat), TownIn V V.heap.size T.turn p q → Calls Try.prog 37 #[.agg #[.int .i64 T.W, .slice p T.s.length c, .slice q T.r.length d]] V (ClPost (clR T m) V) := fun V p q c d h => by
    have := clash_any T.turn m p q c d V htk (by rw [els, elr]; exact hm) h
    rw [els, elr, clR_turn hok] at this
    exact this
  have hid1 := fun (V : World) (p q : Option Addr) (c d : Nat) (h : TownIn V V.heap.size T p q) => idle_any T n m p q c d V hok hn hm h
  have hid2 : ∀ (V : World) (p q : Option Addr) (c d : Nat), TownIn V V.heap.size T.turn p q → Calls Try.prog 39 #[.agg #[.int .i64 T.W, .slice p T.s.length c, .slice q T.r.length d]] V (ClPost (idR T n m) V) := fun V p q c d h => by
    have := idle_any T.turn n m p q c d V htk hn (by rw [els, elr]; exact hm) h
    rw [els, elr, idR_turn hok hn6] at this
    exact this
  have hlc := clR_len T m
  have hli := idR_len T n m
  obtain ⟨⟨lc, ec⟩, hc⟩ : ∃ z, clR T m = z := ⟨_, rfl⟩
  obtain ⟨⟨li, ei⟩, hi⟩ : ∃ z, idR T n m = z := ⟨_, rfl⟩
  rw [hc] at hcl1 hcl2 hlc
  rw [hi] at hid1 hid2 hli
  unfold ClPost at hcl1 hcl2 hid1 hid2
  simp only at hlc hli
  have hIc := fun (V : World) (p q : Option Addr) (c d : Nat) (h1 : Ints V p lc) (h2 : Ints V q lc) => same_ints lc lc.length p q c d V rfl (by omega) h1 h2
  have hIi := fun (V : World) (p q : Option Addr) (c d : Nat) (h1 : Ints V p li) (h2 : Ints V q li) => same_ints li li.length p q c d V rfl (by omega) h1 h2
  have hlo : ∀ j, j < n → (lows N n)[j]?.getD 0 = 99 - (highs M n)[j]?.getD 0 ∧ (highs N n)[j]?.getD 0 = 99 - (lows M n)[j]?.getD 0 ∧ -99 ≤ (lows M n)[j]?.getD 0 ∧ (lows M n)[j]?.getD 0 ≤ 99 ∧ -99 ≤ (highs M n)[j]?.getD 0 ∧ (highs M n)[j]?.getD 0 ≤ 99 := fun j hj => by
    rw [low_nth cN hn6 hj, low_nth cM hn6 hj, high_nth cN hn6 hj, high_nth cM hn6 hj]
    have g := hd j hj
    have a1 := cM.ge (p := j + 1) (q := 0) (by omega) (by omega)
    have a2 := cM.le (j + 1) 0 (by omega) (by omega)
    have a3 := cM.ge (p := 0) (q := j + 1) (by omega) (by omega)
    have a4 := cM.le 0 (j + 1) (by omega) (by omega)
    omega
  have HLO := Lib.hid hlo
  clear hlo hd
  have HCP := Lib.hid hcp; have HE1 := Lib.hid he1; have HE2 := Lib.hid he2; have HCL1 := Lib.hid hcl1; have HCL2 := Lib.hid hcl2; have HID1 := Lib.hid hid1; have HID2 := Lib.hid hid2; have HIC := Lib.hid hIc; have HII := Lib.hid hIi
  have HOK := Lib.hid hok; have HN := Lib.hid hn
  clear hcp he1 he2 hcl1 hcl2 hid1 hid2 hIc hIi hc hi hlc hli hm els elr htk hrd hb1 hz1 y1 hT1 ht hr hok hn hk hN
  have ct0_0 := cell_of_row w1 w.heap.size 0 _ _ _ Yt.out
  have ct1_0 := cell_of_row w1 w.heap.size 1 _ _ _ Yt.out
  have ct2_0 := cell_of_row w1 w.heap.size 2 _ _ _ Yt.out
  simp only [List.getElem?_toArray, List.getElem?_cons_zero, List.getElem?_cons_succ] at ct0_0 ct1_0 ct2_0
  have lt_0 := rowLt Yt.out
  go_enter Try.func14, Try.ntmps14
  go_wp2_with fail
  refine (HR.out).mono ?_
  rintro e w2 ⟨rfl, hw2⟩
  clear ct0_0 ct1_0 ct2_0 lt_0
  have Yt_1 := Lib.hid ((hw2.block _ (rowLt Yt.out)).trans Yt.out)
  have FT_1 := Lib.hid (FT.out.bel hw2)
  have HBW_1 := Lib.hid (bT HB1.out hw2)
  clear hw2
  have ct0_1 := cell_of_row w2 w.heap.size 0 _ _ _ Yt_1.out
  have ct1_1 := cell_of_row w2 w.heap.size 1 _ _ _ Yt_1.out
  have ct2_1 := cell_of_row w2 w.heap.size 2 _ _ _ Yt_1.out
  simp only [List.getElem?_toArray, List.getElem?_cons_zero, List.getElem?_cons_succ] at ct0_1 ct1_1 ct2_1
  have lt_1 := rowLt Yt_1.out
  go_wp2_with fail
  refine (HCP.out _ _ _ _ _ FT_1.out).mono ?_
  rintro e w6 ⟨p', c', q', d', rfl, hw6, ho6⟩
  have HV6 := Lib.hid hw6
  clear ct0_1 ct1_1 ct2_1 lt_1
  have Yt_2 := Lib.hid ((hw6.block _ (rowLt Yt_1.out)).trans Yt_1.out)
  have FT_2 := Lib.hid (FT_1.out.bel hw6)
  have HBW_2 := Lib.hid (bT HBW_1.out hw6)
  clear hw6
  have ct0_2 := cell_of_row w6 w.heap.size 0 _ _ _ Yt_2.out
  have ct1_2 := cell_of_row w6 w.heap.size 1 _ _ _ Yt_2.out
  have ct2_2 := cell_of_row w6 w.heap.size 2 _ _ _ Yt_2.out
  simp only [List.getElem?_toArray, List.getElem?_cons_zero, List.getElem?_cons_succ] at ct0_2 ct1_2 ct2_2
  have lt_2 := rowLt Yt_2.out
  have FO6 := Lib.hid ho6
  clear ho6
  go_wp2_with fail
  obtain ⟨W6, hW6⟩ : ∃ W6, w6.alloc (Obj.cells #[.int .i64 T.W, (.slice p' T.s.length c'), (.slice q' T.r.length d')] 25) = W6 := ⟨_, rfl⟩
  rw [hW6]
  have hbW6 : Below w6.heap.size w6 W6 := by rw [← hW6]; exact bA (Below.refl _ _) _
  have yW6 : W6.heap[w6.heap.size]? = some (.cells #[.int .i64 T.W, (.slice p' T.s.length c'), (.slice q' T.r.length d')] 25 (0, 0)) := by rw [← hW6]; exact heap_alloc_new _ _
  have YW6 := Lib.hid yW6
  have HBXW6 := Lib.hid hbW6
  clear hW6 yW6
  clear ct0_2 ct1_2 ct2_2 lt_2
  have Yt_3 := Lib.hid ((hbW6.block _ (rowLt Yt_2.out)).trans Yt_2.out)
  have FT_3 := Lib.hid (FT_2.out.bel hbW6)
  have FO_3 := Lib.hid (FO6.out.below hbW6)
  have HBW_3 := Lib.hid (bT HBW_2.out hbW6)
  clear hbW6
  have ct0_3 := cell_of_row W6 w.heap.size 0 _ _ _ Yt_3.out
  have ct1_3 := cell_of_row W6 w.heap.size 1 _ _ _ Yt_3.out
  have ct2_3 := cell_of_row W6 w.heap.size 2 _ _ _ Yt_3.out
  simp only [List.getElem?_toArray, List.getElem?_cons_zero, List.getElem?_cons_succ] at ct0_3 ct1_3 ct2_3
  have lt_3 := rowLt Yt_3.out
  clear ct0_3 ct1_3 ct2_3 lt_3
  have ct0_3 := cell_of_row W6 w.heap.size 0 _ _ _ Yt_3.out
  have ct1_3 := cell_of_row W6 w.heap.size 1 _ _ _ Yt_3.out
  have ct2_3 := cell_of_row W6 w.heap.size 2 _ _ _ Yt_3.out
  have co0_3 := cell_of_row W6 w6.heap.size 0 _ _ _ YW6.out
  have co1_3 := cell_of_row W6 w6.heap.size 1 _ _ _ YW6.out
  have co2_3 := cell_of_row W6 w6.heap.size 2 _ _ _ YW6.out
  simp only [List.getElem?_toArray, List.getElem?_cons_zero, List.getElem?_cons_succ] at ct0_3 ct1_3 ct2_3 co0_3 co1_3 co2_3
  have lt_3 := rowLt Yt_3.out
  have lo_3 := rowLt YW6.out
  go_wp2_with fail
  clear ct0_3 ct1_3 ct2_3 co0_3 co1_3 co2_3 lt_3 lo_3
  go_loopw [4] (fun i ws => ∃ k : Nat, i = .int .i64 k ∧ k ≤ T.s.length ∧ ws.ownsRow (w2.heap.size + 2) 62 3 (.slice p' T.s.length c') T.s.length (flatS (dkF turnS T.s k)) ∧ ws.ownsRow (w2.heap.size + 2) 58 4 (.slice q' T.r.length d') T.r.length (flatR (T.r)) ∧ ws.heap[w6.heap.size]? = some (.cells #[.int .i64 T.W, .slice p' T.s.length c', .slice q' T.r.length d'] 25 (0, 0)) ∧ Below w2.heap.size w2 ws) (fun i _ => T.s.length - (intOf i).toNat)
  case atStart => exact ⟨0, rfl, Nat.zero_le _, by rw [dkF_zero]; exact FO_3.out.s, FO_3.out.r, YW6.out, bT HV6.out HBXW6.out⟩
  case round =>
    obtain ⟨k, rfl, hk, hos, hor, hro, hbs⟩ := hrel
    rename World => ws
    have HOS := Lib.hid hos; have HOR := Lib.hid hor; have Yo2 := Lib.hid hro; have HBS := Lib.hid hbs
    clear hos hor hro
    have Yt_21 := Lib.hid ((hbs.block _ (rowLt Yt_1.out)).trans Yt_1.out)
    have FT_21 := Lib.hid (FT_1.out.bel hbs)
    have HBW_21 := Lib.hid (bT HBW_1.out hbs)
    clear hbs
    have ct0_21 := cell_of_row ws w.heap.size 0 _ _ _ Yt_21.out
    have ct1_21 := cell_of_row ws w.heap.size 1 _ _ _ Yt_21.out
    have ct2_21 := cell_of_row ws w.heap.size 2 _ _ _ Yt_21.out
    simp only [List.getElem?_toArray, List.getElem?_cons_zero, List.getElem?_cons_succ] at ct0_21 ct1_21 ct2_21
    have lt_21 := rowLt Yt_21.out
    clear ct0_21 ct1_21 ct2_21 lt_21
    have ct0_21 := cell_of_row ws w.heap.size 0 _ _ _ Yt_21.out
    have ct1_21 := cell_of_row ws w.heap.size 1 _ _ _ Yt_21.out
    have ct2_21 := cell_of_row ws w.heap.size 2 _ _ _ Yt_21.out
    have co0_21 := cell_of_row ws w6.heap.size 0 _ _ _ Yo2.out
    have co1_21 := cell_of_row ws w6.heap.size 1 _ _ _ Yo2.out
    have co2_21 := cell_of_row ws w6.heap.size 2 _ _ _ Yo2.out
    simp only [List.getElem?_toArray, List.getElem?_cons_zero, List.getElem?_cons_succ] at ct0_21 ct1_21 ct2_21 co0_21 co1_21 co2_21
    have lt_21 := rowLt Yt_21.out
    have lo_21 := rowLt Yo2.out
    by_cases hlt : k < T.s.length
    · obtain ⟨b', o', rfl, hbl, hsn⟩ := FT_21.out.s (by omega)
      have e0 := hsn.c0 k hlt
      have e1 := hsn.c1 k hlt
      have e2 := hsn.c2 k hlt
      clear hsn
      have ho := ok_sOk HOK.out (List.getElem_mem hlt)
      obtain ⟨x0, hx0⟩ : ∃ z, T.s[k].well = z := ⟨_, rfl⟩
      rw [hx0] at e0 ho
      obtain ⟨x1, hx1⟩ : ∃ z, T.s[k].low = z := ⟨_, rfl⟩
      rw [hx1] at e1 ho
      obtain ⟨x2, hx2⟩ : ∃ z, T.s[k].high = z := ⟨_, rfl⟩
      rw [hx2] at e2 ho
      have HX := Lib.hid (show turnS T.s[k] = ⟨x0, 99 - x2, 99 - x1⟩ by simp only [turnS, hx0, hx1, hx2])
      obtain ⟨g, rfl, hbg, hlg⟩ := own_ptr HOS.out (by omega)
      have f := flatS_at (dkF turnS T.s k) k (by rw [dkF_len]; exact hlt)
      have j0 := (HOS.out.cellAt (k * 3) (by omega)).trans f.1
      have j1 := (HOS.out.cellAt (k * 3 + 1) (by omega)).trans f.2.1
      have j2 := (HOS.out.cellAt (k * 3 + 2) (by omega)).trans f.2.2
      have jf := HOS.out.frozenAt
      clear f hx0 hx1 hx2
      go_wp2_with fail
      go_roundw
      case rel =>
        obtain ⟨wz, hwz, o1, gr, bl⟩ := own_snd_set HOS.out (dkF_len _ _ _) k hlt x0 (99 - x2) (99 - x1)
        rw [hwz]
        have hro := (Below.heap_alloc _ (Obj.cells #[.int .i64 x0, .int .i64 x1, .int .i64 x2] 62) _ (Nat.lt_of_lt_of_le (rowLt Yo2.out) gr.size)).trans ((gr.block _ (rowLt Yo2.out) (own_ne_box HOS.out Yo2.out (by decide))).trans Yo2.out)
        refine ⟨k + 1, by go_num, hlt, ?_, ?_, hro, bA (bl w2 (by omega) HBS.out) _⟩
        · rw [dkF_succ _ _ _ hlt, HX.out]
          exact o1.alloc _
        · exact (HOR.out.kept gr (own_ne HOR.out HOS.out (by decide))).alloc _
      case measure => simp [intOf]; omega
    · obtain rfl : k = T.s.length := by omega
      clear hlt hk
      have HOS1 := HOS; have HOR1 := HOR; have Yo1 := Yo2; have HBS1 := HBS
      clear HOS HOR HBS
      go_wp2_with fail
      clear ct0_21 ct1_21 ct2_21 co0_21 co1_21 co2_21 lt_21 lo_21
      go_loopw [6] (fun i ws => ∃ k : Nat, i = .int .i64 k ∧ k ≤ T.r.length ∧ ws.ownsRow (w2.heap.size + 2) 62 3 (.slice p' T.s.length c') T.s.length (flatS (dkF turnS T.s T.s.length)) ∧ ws.ownsRow (w2.heap.size + 2) 58 4 (.slice q' T.r.length d') T.r.length (flatR (dkF turnR T.r k)) ∧ ws.heap[w6.heap.size]? = some (.cells #[.int .i64 T.W, .slice p' T.s.length c', .slice q' T.r.length d'] 25 (0, 0)) ∧ Below w2.heap.size w2 ws) (fun i _ => T.r.length - (intOf i).toNat)
      case atStart => exact ⟨0, rfl, Nat.zero_le _, HOS1.out, by rw [dkF_zero]; exact HOR1.out, Yo1.out, HBS1.out⟩
      case round =>
        obtain ⟨k, rfl, hk, hos, hor, hro, hbs⟩ := hrel
        rename World => wt
        have HOS := Lib.hid hos; have HOR := Lib.hid hor; have Yo2 := Lib.hid hro; have HBS := Lib.hid hbs
        clear hos hor hro
        have Yt_51 := Lib.hid ((hbs.block _ (rowLt Yt_1.out)).trans Yt_1.out)
        have FT_51 := Lib.hid (FT_1.out.bel hbs)
        have HBW_51 := Lib.hid (bT HBW_1.out hbs)
        clear hbs
        have ct0_51 := cell_of_row wt w.heap.size 0 _ _ _ Yt_51.out
        have ct1_51 := cell_of_row wt w.heap.size 1 _ _ _ Yt_51.out
        have ct2_51 := cell_of_row wt w.heap.size 2 _ _ _ Yt_51.out
        simp only [List.getElem?_toArray, List.getElem?_cons_zero, List.getElem?_cons_succ] at ct0_51 ct1_51 ct2_51
        have lt_51 := rowLt Yt_51.out
        clear ct0_51 ct1_51 ct2_51 lt_51
        have ct0_51 := cell_of_row wt w.heap.size 0 _ _ _ Yt_51.out
        have ct1_51 := cell_of_row wt w.heap.size 1 _ _ _ Yt_51.out
        have ct2_51 := cell_of_row wt w.heap.size 2 _ _ _ Yt_51.out
        have co0_51 := cell_of_row wt w6.heap.size 0 _ _ _ Yo2.out
        have co1_51 := cell_of_row wt w6.heap.size 1 _ _ _ Yo2.out
        have co2_51 := cell_of_row wt w6.heap.size 2 _ _ _ Yo2.out
        simp only [List.getElem?_toArray, List.getElem?_cons_zero, List.getElem?_cons_succ] at ct0_51 ct1_51 ct2_51 co0_51 co1_51 co2_51
        have lt_51 := rowLt Yt_51.out
        have lo_51 := rowLt Yo2.out
        by_cases hlt : k < T.r.length
        · obtain ⟨b', o', rfl, hbl, hsn⟩ := FT_51.out.r (by omega)
          have e0 := hsn.c0 k hlt
          have e1 := hsn.c1 k hlt
          have e2 := hsn.c2 k hlt
          have e3 := hsn.c3 k hlt
          clear hsn
          have ho := ok_rOk HOK.out (List.getElem_mem hlt)
          obtain ⟨x0, hx0⟩ : ∃ z, T.r[k].a = z := ⟨_, rfl⟩
          rw [hx0] at e0 ho
          obtain ⟨x1, hx1⟩ : ∃ z, T.r[k].b = z := ⟨_, rfl⟩
          rw [hx1] at e1 ho
          obtain ⟨x2, hx2⟩ : ∃ z, T.r[k].low = z := ⟨_, rfl⟩
          rw [hx2] at e2 ho
          obtain ⟨x3, hx3⟩ : ∃ z, T.r[k].high = z := ⟨_, rfl⟩
          rw [hx3] at e3 ho
          have HX := Lib.hid (show turnR T.r[k] = ⟨x1, x0, x2, x3⟩ by simp only [turnR, hx0, hx1, hx2, hx3])
          obtain ⟨g, rfl, hbg, hlg⟩ := own_ptr HOR.out (by omega)
          have f := flatR_at (dkF turnR T.r k) k (by rw [dkF_len]; exact hlt)
          have j0 := (HOR.out.cellAt (k * 4) (by omega)).trans f.1
          have j1 := (HOR.out.cellAt (k * 4 + 1) (by omega)).trans f.2.1
          have j2 := (HOR.out.cellAt (k * 4 + 2) (by omega)).trans f.2.2.1
          have j3 := (HOR.out.cellAt (k * 4 + 3) (by omega)).trans f.2.2.2
          have jf := HOR.out.frozenAt
          clear f hx0 hx1 hx2 hx3
          go_wp2_with fail
          go_roundw
          case rel =>
            obtain ⟨wz, hwz, o1, gr, bl⟩ := own_slp_set HOR.out (dkF_len _ _ _) k hlt x1 x0 x2 x3
            rw [hwz]
            have hro := (Below.heap_alloc _ (Obj.cells #[.int .i64 x0, .int .i64 x1, .int .i64 x2, .int .i64 x3] 58) _ (Nat.lt_of_lt_of_le (rowLt Yo2.out) gr.size)).trans ((gr.block _ (rowLt Yo2.out) (own_ne_box HOR.out Yo2.out (by decide))).trans Yo2.out)
            refine ⟨k + 1, by go_num, hlt, ?_, ?_, hro, bA (bl w2 (by omega) HBS.out) _⟩
            · exact (HOS.out.kept gr (own_ne HOS.out HOR.out (by decide))).alloc _
            · rw [dkF_succ _ _ _ hlt, HX.out]
              exact o1.alloc _
          case measure => simp [intOf]; omega
        · obtain rfl : k = T.r.length := by omega
          clear hlt hk
          have hTD : TownIn wt wt.heap.size T.turn p' q' := by rw [turn_eq]; exact ⟨sndAt_own (by rw [dkF_len]; exact HOS.out), slpAt_own (by rw [dkF_len]; exact HOR.out)⟩
          have FD := Lib.hid hTD
          clear hTD
          go_wp2_with fail
          refine (HE1.out _ _ _ _ _ FT_51.out).mono ?_
          rintro e w8 ⟨p1, c1, p2, c2, rfl, hi1, hi2, hw8⟩
          clear ct0_51 ct1_51 ct2_51 co0_51 co1_51 co2_51 lt_51 lo_51
          have Yt_52 := Lib.hid ((hw8.block _ (rowLt Yt_51.out)).trans Yt_51.out)
          have Yo_52 := Lib.hid ((hw8.block _ (rowLt Yo2.out)).trans Yo2.out)
          have FT_52 := Lib.hid (FT_51.out.bel hw8)
          have FD_52 := Lib.hid (FD.out.bel hw8)
          have HBW_52 := Lib.hid (bT HBW_51.out hw8)
          clear hw8
          have ct0_52 := cell_of_row w8 w.heap.size 0 _ _ _ Yt_52.out
          have ct1_52 := cell_of_row w8 w.heap.size 1 _ _ _ Yt_52.out
          have ct2_52 := cell_of_row w8 w.heap.size 2 _ _ _ Yt_52.out
          have co0_52 := cell_of_row w8 w6.heap.size 0 _ _ _ Yo_52.out
          have co1_52 := cell_of_row w8 w6.heap.size 1 _ _ _ Yo_52.out
          have co2_52 := cell_of_row w8 w6.heap.size 2 _ _ _ Yo_52.out
          simp only [List.getElem?_toArray, List.getElem?_cons_zero, List.getElem?_cons_succ] at ct0_52 ct1_52 ct2_52 co0_52 co1_52 co2_52
          have lt_52 := rowLt Yt_52.out
          have lo_52 := rowLt Yo_52.out
          have FA8 := Lib.hid hi1
          clear hi1
          have FB8 := Lib.hid hi2
          clear hi2
          go_wp2_with fail
          refine (HE2.out _ _ _ _ _ FD_52.out).mono ?_
          rintro e w9 ⟨p3, c3, p4, c4, rfl, hi3, hi4, hw9⟩
          clear ct0_52 ct1_52 ct2_52 co0_52 co1_52 co2_52 lt_52 lo_52
          have Yt_53 := Lib.hid ((hw9.block _ (rowLt Yt_52.out)).trans Yt_52.out)
          have Yo_53 := Lib.hid ((hw9.block _ (rowLt Yo_52.out)).trans Yo_52.out)
          have FT_53 := Lib.hid (FT_52.out.bel hw9)
          have FD_53 := Lib.hid (FD_52.out.bel hw9)
          have Fa_53 := Lib.hid (FA8.out.below hw9)
          have Fb_53 := Lib.hid (FB8.out.below hw9)
          have HBW_53 := Lib.hid (bT HBW_52.out hw9)
          clear hw9
          have ct0_53 := cell_of_row w9 w.heap.size 0 _ _ _ Yt_53.out
          have ct1_53 := cell_of_row w9 w.heap.size 1 _ _ _ Yt_53.out
          have ct2_53 := cell_of_row w9 w.heap.size 2 _ _ _ Yt_53.out
          have co0_53 := cell_of_row w9 w6.heap.size 0 _ _ _ Yo_53.out
          have co1_53 := cell_of_row w9 w6.heap.size 1 _ _ _ Yo_53.out
          have co2_53 := cell_of_row w9 w6.heap.size 2 _ _ _ Yo_53.out
          simp only [List.getElem?_toArray, List.getElem?_cons_zero, List.getElem?_cons_succ] at ct0_53 ct1_53 ct2_53 co0_53 co1_53 co2_53
          have lt_53 := rowLt Yt_53.out
          have lo_53 := rowLt Yo_53.out
          have FC9 := Lib.hid hi3
          clear hi3
          have FD9 := Lib.hid hi4
          clear hi4
          go_wp2_with fail
          refine (HCL1.out _ _ _ _ _ FT_53.out).mono ?_
          rintro e w10 ⟨p5, c5, rfl, hi5, hw10⟩
          clear ct0_53 ct1_53 ct2_53 co0_53 co1_53 co2_53 lt_53 lo_53
          have Yt_54 := Lib.hid ((hw10.block _ (rowLt Yt_53.out)).trans Yt_53.out)
          have Yo_54 := Lib.hid ((hw10.block _ (rowLt Yo_53.out)).trans Yo_53.out)
          have FT_54 := Lib.hid (FT_53.out.bel hw10)
          have FD_54 := Lib.hid (FD_53.out.bel hw10)
          have Fa_54 := Lib.hid (Fa_53.out.below hw10)
          have Fb_54 := Lib.hid (Fb_53.out.below hw10)
          have Fc_54 := Lib.hid (FC9.out.below hw10)
          have Fd_54 := Lib.hid (FD9.out.below hw10)
          have HBW_54 := Lib.hid (bT HBW_53.out hw10)
          clear hw10
          have ct0_54 := cell_of_row w10 w.heap.size 0 _ _ _ Yt_54.out
          have ct1_54 := cell_of_row w10 w.heap.size 1 _ _ _ Yt_54.out
          have ct2_54 := cell_of_row w10 w.heap.size 2 _ _ _ Yt_54.out
          have co0_54 := cell_of_row w10 w6.heap.size 0 _ _ _ Yo_54.out
          have co1_54 := cell_of_row w10 w6.heap.size 1 _ _ _ Yo_54.out
          have co2_54 := cell_of_row w10 w6.heap.size 2 _ _ _ Yo_54.out
          simp only [List.getElem?_toArray, List.getElem?_cons_zero, List.getElem?_cons_succ] at ct0_54 ct1_54 ct2_54 co0_54 co1_54 co2_54
          have lt_54 := rowLt Yt_54.out
          have lo_54 := rowLt Yo_54.out
          have FK10 := Lib.hid hi5
          clear hi5
          go_wp2_with fail
          refine (HCL2.out _ _ _ _ _ FD_54.out).mono ?_
          rintro e w11 ⟨p6, c6, rfl, hi6, hw11⟩
          clear ct0_54 ct1_54 ct2_54 co0_54 co1_54 co2_54 lt_54 lo_54
          have Yt_55 := Lib.hid ((hw11.block _ (rowLt Yt_54.out)).trans Yt_54.out)
          have Yo_55 := Lib.hid ((hw11.block _ (rowLt Yo_54.out)).trans Yo_54.out)
          have FT_55 := Lib.hid (FT_54.out.bel hw11)
          have FD_55 := Lib.hid (FD_54.out.bel hw11)
          have Fa_55 := Lib.hid (Fa_54.out.below hw11)
          have Fb_55 := Lib.hid (Fb_54.out.below hw11)
          have Fc_55 := Lib.hid (Fc_54.out.below hw11)
          have Fd_55 := Lib.hid (Fd_54.out.below hw11)
          have Fk_55 := Lib.hid (FK10.out.below hw11)
          have HBW_55 := Lib.hid (bT HBW_54.out hw11)
          clear hw11
          have ct0_55 := cell_of_row w11 w.heap.size 0 _ _ _ Yt_55.out
          have ct1_55 := cell_of_row w11 w.heap.size 1 _ _ _ Yt_55.out
          have ct2_55 := cell_of_row w11 w.heap.size 2 _ _ _ Yt_55.out
          have co0_55 := cell_of_row w11 w6.heap.size 0 _ _ _ Yo_55.out
          have co1_55 := cell_of_row w11 w6.heap.size 1 _ _ _ Yo_55.out
          have co2_55 := cell_of_row w11 w6.heap.size 2 _ _ _ Yo_55.out
          simp only [List.getElem?_toArray, List.getElem?_cons_zero, List.getElem?_cons_succ] at ct0_55 ct1_55 ct2_55 co0_55 co1_55 co2_55
          have lt_55 := rowLt Yt_55.out
          have lo_55 := rowLt Yo_55.out
          have FL11 := Lib.hid hi6
          clear hi6
          go_wp2_with fail
          refine (HID1.out _ _ _ _ _ FT_55.out).mono ?_
          rintro e w12 ⟨p7, c7, rfl, hi7, hw12⟩
          clear ct0_55 ct1_55 ct2_55 co0_55 co1_55 co2_55 lt_55 lo_55
          have Yt_56 := Lib.hid ((hw12.block _ (rowLt Yt_55.out)).trans Yt_55.out)
          have Yo_56 := Lib.hid ((hw12.block _ (rowLt Yo_55.out)).trans Yo_55.out)
          have FT_56 := Lib.hid (FT_55.out.bel hw12)
          have FD_56 := Lib.hid (FD_55.out.bel hw12)
          have Fa_56 := Lib.hid (Fa_55.out.below hw12)
          have Fb_56 := Lib.hid (Fb_55.out.below hw12)
          have Fc_56 := Lib.hid (Fc_55.out.below hw12)
          have Fd_56 := Lib.hid (Fd_55.out.below hw12)
          have Fk_56 := Lib.hid (Fk_55.out.below hw12)
          have Fl_56 := Lib.hid (FL11.out.below hw12)
          have HBW_56 := Lib.hid (bT HBW_55.out hw12)
          clear hw12
          have ct0_56 := cell_of_row w12 w.heap.size 0 _ _ _ Yt_56.out
          have ct1_56 := cell_of_row w12 w.heap.size 1 _ _ _ Yt_56.out
          have ct2_56 := cell_of_row w12 w.heap.size 2 _ _ _ Yt_56.out
          have co0_56 := cell_of_row w12 w6.heap.size 0 _ _ _ Yo_56.out
          have co1_56 := cell_of_row w12 w6.heap.size 1 _ _ _ Yo_56.out
          have co2_56 := cell_of_row w12 w6.heap.size 2 _ _ _ Yo_56.out
          simp only [List.getElem?_toArray, List.getElem?_cons_zero, List.getElem?_cons_succ] at ct0_56 ct1_56 ct2_56 co0_56 co1_56 co2_56
          have lt_56 := rowLt Yt_56.out
          have lo_56 := rowLt Yo_56.out
          have FM12 := Lib.hid hi7
          clear hi7
          go_wp2_with fail
          refine (HID2.out _ _ _ _ _ FD_56.out).mono ?_
          rintro e w13 ⟨p8, c8, rfl, hi8, hw13⟩
          clear ct0_56 ct1_56 ct2_56 co0_56 co1_56 co2_56 lt_56 lo_56
          have Yt_57 := Lib.hid ((hw13.block _ (rowLt Yt_56.out)).trans Yt_56.out)
          have Yo_57 := Lib.hid ((hw13.block _ (rowLt Yo_56.out)).trans Yo_56.out)
          have FT_57 := Lib.hid (FT_56.out.bel hw13)
          have FD_57 := Lib.hid (FD_56.out.bel hw13)
          have Fa_57 := Lib.hid (Fa_56.out.below hw13)
          have Fb_57 := Lib.hid (Fb_56.out.below hw13)
          have Fc_57 := Lib.hid (Fc_56.out.below hw13)
          have Fd_57 := Lib.hid (Fd_56.out.below hw13)
          have Fk_57 := Lib.hid (Fk_56.out.below hw13)
          have Fl_57 := Lib.hid (Fl_56.out.below hw13)
          have Fm_57 := Lib.hid (FM12.out.below hw13)
          have HBW_57 := Lib.hid (bT HBW_56.out hw13)
          clear hw13
          have ct0_57 := cell_of_row w13 w.heap.size 0 _ _ _ Yt_57.out
          have ct1_57 := cell_of_row w13 w.heap.size 1 _ _ _ Yt_57.out
          have ct2_57 := cell_of_row w13 w.heap.size 2 _ _ _ Yt_57.out
          have co0_57 := cell_of_row w13 w6.heap.size 0 _ _ _ Yo_57.out
          have co1_57 := cell_of_row w13 w6.heap.size 1 _ _ _ Yo_57.out
          have co2_57 := cell_of_row w13 w6.heap.size 2 _ _ _ Yo_57.out
          simp only [List.getElem?_toArray, List.getElem?_cons_zero, List.getElem?_cons_succ] at ct0_57 ct1_57 ct2_57 co0_57 co1_57 co2_57
          have lt_57 := rowLt Yt_57.out
          have lo_57 := rowLt Yo_57.out
          have FN13 := Lib.hid hi8
          clear hi8
          go_wp2_with fail
          refine (HIC.out _ _ _ _ _ Fk_57.out Fl_57.out).mono ?_
          rintro e w14 ⟨rfl, hw14⟩
          clear ct0_57 ct1_57 ct2_57 co0_57 co1_57 co2_57 lt_57 lo_57
          have Yt_58 := Lib.hid ((hw14.block _ (rowLt Yt_57.out)).trans Yt_57.out)
          have Yo_58 := Lib.hid ((hw14.block _ (rowLt Yo_57.out)).trans Yo_57.out)
          have FT_58 := Lib.hid (FT_57.out.bel hw14)
          have FD_58 := Lib.hid (FD_57.out.bel hw14)
          have Fa_58 := Lib.hid (Fa_57.out.below hw14)
          have Fb_58 := Lib.hid (Fb_57.out.below hw14)
          have Fc_58 := Lib.hid (Fc_57.out.below hw14)
          have Fd_58 := Lib.hid (Fd_57.out.below hw14)
          have Fk_58 := Lib.hid (Fk_57.out.below hw14)
          have Fl_58 := Lib.hid (Fl_57.out.below hw14)
          have Fm_58 := Lib.hid (Fm_57.out.below hw14)
          have Fn_58 := Lib.hid (FN13.out.below hw14)
          have HBW_58 := Lib.hid (bT HBW_57.out hw14)
          clear hw14
          have ct0_58 := cell_of_row w14 w.heap.size 0 _ _ _ Yt_58.out
          have ct1_58 := cell_of_row w14 w.heap.size 1 _ _ _ Yt_58.out
          have ct2_58 := cell_of_row w14 w.heap.size 2 _ _ _ Yt_58.out
          have co0_58 := cell_of_row w14 w6.heap.size 0 _ _ _ Yo_58.out
          have co1_58 := cell_of_row w14 w6.heap.size 1 _ _ _ Yo_58.out
          have co2_58 := cell_of_row w14 w6.heap.size 2 _ _ _ Yo_58.out
          simp only [List.getElem?_toArray, List.getElem?_cons_zero, List.getElem?_cons_succ] at ct0_58 ct1_58 ct2_58 co0_58 co1_58 co2_58
          have lt_58 := rowLt Yt_58.out
          have lo_58 := rowLt Yo_58.out
          go_wp2_with fail
          refine (HII.out _ _ _ _ _ Fm_58.out Fn_58.out).mono ?_
          rintro e w15 ⟨rfl, hw15⟩
          clear ct0_58 ct1_58 ct2_58 co0_58 co1_58 co2_58 lt_58 lo_58
          have Yt_59 := Lib.hid ((hw15.block _ (rowLt Yt_58.out)).trans Yt_58.out)
          have Yo_59 := Lib.hid ((hw15.block _ (rowLt Yo_58.out)).trans Yo_58.out)
          have FT_59 := Lib.hid (FT_58.out.bel hw15)
          have FD_59 := Lib.hid (FD_58.out.bel hw15)
          have Fa_59 := Lib.hid (Fa_58.out.below hw15)
          have Fb_59 := Lib.hid (Fb_58.out.below hw15)
          have Fc_59 := Lib.hid (Fc_58.out.below hw15)
          have Fd_59 := Lib.hid (Fd_58.out.below hw15)
          have Fk_59 := Lib.hid (Fk_58.out.below hw15)
          have Fl_59 := Lib.hid (Fl_58.out.below hw15)
          have Fm_59 := Lib.hid (Fm_58.out.below hw15)
          have Fn_59 := Lib.hid (Fn_58.out.below hw15)
          have HBW_59 := Lib.hid (bT HBW_58.out hw15)
          clear hw15
          have ct0_59 := cell_of_row w15 w.heap.size 0 _ _ _ Yt_59.out
          have ct1_59 := cell_of_row w15 w.heap.size 1 _ _ _ Yt_59.out
          have ct2_59 := cell_of_row w15 w.heap.size 2 _ _ _ Yt_59.out
          have co0_59 := cell_of_row w15 w6.heap.size 0 _ _ _ Yo_59.out
          have co1_59 := cell_of_row w15 w6.heap.size 1 _ _ _ Yo_59.out
          have co2_59 := cell_of_row w15 w6.heap.size 2 _ _ _ Yo_59.out
          simp only [List.getElem?_toArray, List.getElem?_cons_zero, List.getElem?_cons_succ] at ct0_59 ct1_59 ct2_59 co0_59 co1_59 co2_59
          have lt_59 := rowLt Yt_59.out
          have lo_59 := rowLt Yo_59.out
          go_wp2_with fail
          clear ct0_59 ct1_59 ct2_59 co0_59 co1_59 co2_59 lt_59 lo_59
          go_loopw [24] (fun i wq => ∃ j : Nat, i = .int .i64 j ∧ j ≤ n ∧ Below w15.heap.size w15 wq) (fun i _ => n - (intOf i).toNat)
          case atStart => exact ⟨0, rfl, Nat.zero_le _, Below.refl _ _⟩
          case round =>
            obtain ⟨j, rfl, hj, hbq⟩ := hrel
            rename World => wq
            have HBQ := Lib.hid hbq
            have Yt_60 := Lib.hid ((hbq.block _ (rowLt Yt_59.out)).trans Yt_59.out)
            have Yo_60 := Lib.hid ((hbq.block _ (rowLt Yo_59.out)).trans Yo_59.out)
            have FT_60 := Lib.hid (FT_59.out.bel hbq)
            have FD_60 := Lib.hid (FD_59.out.bel hbq)
            have Fa_60 := Lib.hid (Fa_59.out.below hbq)
            have Fb_60 := Lib.hid (Fb_59.out.below hbq)
            have Fc_60 := Lib.hid (Fc_59.out.below hbq)
            have Fd_60 := Lib.hid (Fd_59.out.below hbq)
            have Fk_60 := Lib.hid (Fk_59.out.below hbq)
            have Fl_60 := Lib.hid (Fl_59.out.below hbq)
            have Fm_60 := Lib.hid (Fm_59.out.below hbq)
            have Fn_60 := Lib.hid (Fn_59.out.below hbq)
            have HBW_60 := Lib.hid (bT HBW_59.out hbq)
            clear hbq
            have ct0_60 := cell_of_row wq w.heap.size 0 _ _ _ Yt_60.out
            have ct1_60 := cell_of_row wq w.heap.size 1 _ _ _ Yt_60.out
            have ct2_60 := cell_of_row wq w.heap.size 2 _ _ _ Yt_60.out
            have co0_60 := cell_of_row wq w6.heap.size 0 _ _ _ Yo_60.out
            have co1_60 := cell_of_row wq w6.heap.size 1 _ _ _ Yo_60.out
            have co2_60 := cell_of_row wq w6.heap.size 2 _ _ _ Yo_60.out
            simp only [List.getElem?_toArray, List.getElem?_cons_zero, List.getElem?_cons_succ] at ct0_60 ct1_60 ct2_60 co0_60 co1_60 co2_60
            have lt_60 := rowLt Yt_60.out
            have lo_60 := rowLt Yo_60.out
            by_cases hlt : j < n
            · have gg : decide ((j : Int) < T.W) = true := decide_eq_true (by have := HN.out; omega)
              obtain ⟨b1, o1, rfl, hi1⟩ := Fa_60.out (by rw [lows_len]; omega)
              obtain ⟨b2, o2, rfl, hi2⟩ := Fb_60.out (by rw [highs_len]; omega)
              obtain ⟨b3, o3, rfl, hi3⟩ := Fc_60.out (by rw [lows_len]; omega)
              obtain ⟨b4, o4, rfl, hi4⟩ := Fd_60.out (by rw [highs_len]; omega)
              have e1 := hi1.cell j (by rw [lows_len]; exact hlt)
              have e2 := hi2.cell j (by rw [highs_len]; exact hlt)
              have e3 := hi3.cell j (by rw [lows_len]; exact hlt)
              have e4 := hi4.cell j (by rw [highs_len]; exact hlt)
              obtain ⟨z1, z2, z3, z4, z5, z6⟩ := HLO.out j hlt
              rw [z1] at e3
              rw [z2] at e4
              obtain ⟨A1, hA1⟩ : ∃ z, (lows M n)[j]?.getD 0 = z := ⟨_, rfl⟩
              obtain ⟨A2, hA2⟩ : ∃ z, (highs M n)[j]?.getD 0 = z := ⟨_, rfl⟩
              rw [hA1] at e1 e4 z3 z4
              rw [hA2] at e2 e3 z5 z6
              have r1 := hi1.lt; have r2 := hi2.lt; have r3 := hi3.lt; have r4 := hi4.lt
              have k0i : (0 : Int) ≤ (j : Int) := by omega
              have k1i : (j : Int) < (n : Int) := by omega
              have v1 : IntKind.i64.wrap (99 - A1) = 99 - A1 := IntWalk.i64_in _ (by omega)
              have v2 : IntKind.i64.wrap (99 - A2) = 99 - A2 := IntWalk.i64_in _ (by omega)
              clear hi1 hi2 hi3 hi4 z1 z2 hA1 hA2
              go_wp2_with fail
              go_quiet (fail)
              go_wp2_with fail
              go_roundw
              case rel => exact ⟨j + 1, by go_num, hlt, by repeat (first | exact HBQ.out | refine bD ?_ _ | refine bd ?_)⟩
              case measure => simp [intOf]; omega
            · have gg : decide ((j : Int) < T.W) = false := decide_eq_false (by have := HN.out; omega)
              clear hlt hj
              go_wp2_with fail
              refine (works_ex _).mono ?_
              rintro e w20 ⟨rfl, hw20⟩
              clear ct0_60 ct1_60 ct2_60 co0_60 co1_60 co2_60 lt_60 lo_60
              have Yt_61 := Lib.hid ((hw20.block _ (rowLt Yt_60.out)).trans Yt_60.out)
              have Yo_61 := Lib.hid ((hw20.block _ (rowLt Yo_60.out)).trans Yo_60.out)
              have FT_61 := Lib.hid (FT_60.out.bel hw20)
              have FD_61 := Lib.hid (FD_60.out.bel hw20)
              have Fa_61 := Lib.hid (Fa_60.out.below hw20)
              have Fb_61 := Lib.hid (Fb_60.out.below hw20)
              have Fc_61 := Lib.hid (Fc_60.out.below hw20)
              have Fd_61 := Lib.hid (Fd_60.out.below hw20)
              have Fk_61 := Lib.hid (Fk_60.out.below hw20)
              have Fl_61 := Lib.hid (Fl_60.out.below hw20)
              have Fm_61 := Lib.hid (Fm_60.out.below hw20)
              have Fn_61 := Lib.hid (Fn_60.out.below hw20)
              have HBW_61 := Lib.hid (bT HBW_60.out hw20)
              clear hw20
              have ct0_61 := cell_of_row w20 w.heap.size 0 _ _ _ Yt_61.out
              have ct1_61 := cell_of_row w20 w.heap.size 1 _ _ _ Yt_61.out
              have ct2_61 := cell_of_row w20 w.heap.size 2 _ _ _ Yt_61.out
              have co0_61 := cell_of_row w20 w6.heap.size 0 _ _ _ Yo_61.out
              have co1_61 := cell_of_row w20 w6.heap.size 1 _ _ _ Yo_61.out
              have co2_61 := cell_of_row w20 w6.heap.size 2 _ _ _ Yo_61.out
              simp only [List.getElem?_toArray, List.getElem?_cons_zero, List.getElem?_cons_succ] at ct0_61 ct1_61 ct2_61 co0_61 co1_61 co2_61
              have lt_61 := rowLt Yt_61.out
              have lo_61 := rowLt Yo_61.out
              go_wp2_with fail
              go_ret
              exact ⟨rfl, (by repeat (first | exact HBW_61.out | refine bA ?_ _ | refine bd ?_ | refine bD ?_ _))⟩

/-- LevelsTurned answers true, whatever the town -/
theorem turned_law (T : Town) (p q : Option Addr) (c d : Nat) (w : World) (ht : TownIn w w.heap.size T p q) :
    Calls Try.prog 14 #[.agg #[.int .i64 T.W, .slice p T.s.length c, .slice q T.r.length d]] w fun e w' => e = .returned (.bool true) ∧ Below w.heap.size w w' := by
  cases hr : rdy T with
  | false => exact turned_skip T p q c d w ht hr
  | true =>
    have hok := (rdy_ok hr).1
    have hW := ok_W hok
    have hn : T.W = (T.W.toNat : Nat) := by omega
    rcases kn_turn hok (n := T.W.toNat) (by omega) with ⟨h1, h2⟩ | ⟨M, N, h1, h2, cM, cN, hd⟩
    · exact turned_none T _ p q c d w ht hr hn h1 h2
    · exact turned_some T M N _ p q c d w ht hr hn h1 h2 cM cN hd
end Go.Proofs.Ytmfbfcknnjbabaa
