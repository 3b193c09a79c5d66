/- Boxes of mouths: the turns, one gauge after the other. -/
import Derived.Test.YthbicbmlbblflaaF1

import Derived.Sort.BigQuietIn

import Derived.Sort.QuietTacIn

set_option linter.unusedSimpArgs false

set_option linter.unusedVariables false

namespace Go.Proofs.Ythbicbmlbblflaa

open Go.RowKit Go.Shelf
attribute [local go_sem] Oper.semAt_some


/-- an array of five numbers lies in block b -/
structure DvAt (w : World) (b : Nat) (g : Nat → Int) : Prop where
  lt : b < w.heap.size
  c : ∀ i, i < 5 → w.cell? ⟨b, i, none⟩ = some (.int .i64 (g i))
  fz : ∀ i, w.frozen? ⟨b, i, none⟩ = false
theorem DvAt.blk {w w' : World} {b : Nat} {g : Nat → Int} (h : DvAt w b g) (e : w'.heap[b]? = w.heap[b]?) : DvAt w' b g := by
  refine ⟨?_, fun i hi => (World.cell?_of_block (a := ⟨b, i, none⟩) e).trans (h.c i hi), fun i => (World.frozen?_of_block (a := ⟨b, i, none⟩) e).trans (h.fz i)⟩
  rcases Nat.lt_or_ge b w'.heap.size with h' | h'
  · exact h'
  · rw [Array.getElem?_eq_none h', Array.getElem?_eq_getElem h.lt] at e; cases e
theorem DvAt.bel {w w' : World} {b K : Nat} {g : Nat → Int} (h : DvAt w b g) (hb : Below K w w') (hl : b < K) : DvAt w' b g := h.blk (hb.block b hl)
theorem DvAt.new (w : World) (g : Nat → Int) : DvAt (w.alloc (Obj.cells #[.int .i64 (g 0), .int .i64 (g 1), .int .i64 (g 2), .int .i64 (g 3), .int .i64 (g 4)] 73)) w.heap.size g :=
  ⟨by simp, dv_cell (by go_simp) (by go_simp) (by go_simp) (by go_simp) (by go_simp), fun i => by go_simp⟩
theorem DvAt.set {w : World} {b q : Nat} {g : Nat → Int} (h : DvAt w b g) (hq : q < 5) : DvAt (w.setCell ⟨b, q, none⟩ (.int .i64 (g q + 1))) b (up g q) := by
  have hc := h.c q hq
  refine ⟨by simpa using h.lt, fun i hi => ?_, fun i => by have := h.fz i; simpa using this⟩
  by_cases e : i = q
  · subst e
    rw [up_same]
    have hf := h.fz i
    go_simp
  · rw [up_ne _ e]
    rw [World.cell?_setCell_other _ _ _ _ (by simp [e])]
    exact h.c i hi
/-- a box at work lies in block b -/
structure FlAt (w : World) (b : Nat) (p : Option Addr) (n c : Nat) (q : Option Addr) (m d : Nat) (fl : Int) : Prop where
  lt : b < w.heap.size
  c0 : w.cell? ⟨b, 0, none⟩ = some (.slice p n c)
  c1 : w.cell? ⟨b, 1, none⟩ = some (.slice q m d)
  c2 : w.cell? ⟨b, 2, none⟩ = some (.int .i64 fl)
theorem FlAt.blk {w w' : World} {b n c m d : Nat} {p q : Option Addr} {fl : Int} (h : FlAt w b p n c q m d fl) (e : w'.heap[b]? = w.heap[b]?) : FlAt w' b p n c q m d fl := by
  refine ⟨?_, (World.cell?_of_block (a := ⟨b, 0, none⟩) e).trans h.c0, (World.cell?_of_block (a := ⟨b, 1, none⟩) e).trans h.c1, (World.cell?_of_block (a := ⟨b, 2, none⟩) e).trans h.c2⟩
  rcases Nat.lt_or_ge b w'.heap.size with h' | h'
  · exact h'
  · rw [Array.getElem?_eq_none h', Array.getElem?_eq_getElem h.lt] at e; cases e
theorem gv_5 {D : Bx} (hok : D.ok = true) (f : Nat) : ∀ i, i < 5 → 0 ≤ gv D f i ∧ gv D f i ≤ 20 := fun i hi => by
  obtain ⟨o1, o2, o3, o4⟩ := Bx.ok_parts hok
  obtain ⟨h1, h2, h3, _⟩ := gv_bd hok f i
  rcases Nat.lt_or_ge i D.n with h | h
  · have := h2 h; have := o4 i h; omega
  · have := h3 h; omega
theorem two_boxes (W : World) (p q : Option Addr) (n m c d : Nat) (fl : Int) : ∃ W2, (W.alloc (Obj.cells #[Value.slice p n c, Value.slice q m d, Value.int .i64 fl] 81)).alloc (Obj.cells #[Value.int .i64 0, Value.int .i64 0, Value.int .i64 0, Value.int .i64 0, Value.int .i64 0] 73) = W2 ∧
    Below W.heap.size W W2 ∧ W2.heap.size = W.heap.size + 2 ∧ FlAt W2 W.heap.size p n c q m d fl ∧ DvAt W2 (W.heap.size + 1) (fun _ => 0) := by
  refine ⟨_, rfl, bA (bA (Below.refl _ _) _) _, by simp, ⟨by simp; omega, by go_simp, by go_simp, by go_simp⟩, ?_⟩
  have := DvAt.new (W.alloc (Obj.cells #[Value.slice p n c, Value.slice q m d, Value.int .i64 fl] 81)) (fun _ => 0)
  simpa using this
set_option maxRecDepth 100000 in
set_option maxHeartbeats 4000000 in
theorem turns_any (D : Bx) (p q : Option Addr) (c d l F : Nat) (m : Nat) (J Jx : List Nat → World → Prop) (W : World) (hok : D.ok = true) (hF : F ≤ 40)
    (hJ : ∀ s A A', J s A → Below W.heap.size A A' → J s A')
    (hY : ∀ m pre (x : Nat) A, J pre A → x < D.n → YieldAt Fence.wide m Try.prog l #[.int .i64 (x : Int)] A fun e A' => (e = .returned (.bool true) ∧ J (pre ++ [x]) A' ∧ Kp W.heap.size A A') ∨ (e = .returned (.bool false) ∧ Jx (pre ++ [x]) A'))
    (hC : ∀ s A, J s A → BxIn A A.heap.size D p q) (h0 : J [] W) :
    CallsIn Fence.wide m Try.prog 86 #[.agg #[.slice p D.n c, .slice q D.m d, .int .i64 (F : Int)], .func (.yield l) #[] #[]] W fun e A' => (∃ v, e = .returned v) ∧
      ((∃ xs, xs = tn D F ∧ J xs A') ∨ (∃ pre, pre <+: tn D F ∧ Jx pre A')) := by
  obtain ⟨o1, o2, o3, o4⟩ := Bx.ok_parts hok
  obtain ⟨W2, hW2, hb2, hz2, hf2, hd2⟩ := two_boxes W p q D.n D.m c d (F : Int)
  have HOK := Lib.hid hok
  have HJ := Lib.hid hJ; have HY := Lib.hid hY; have HC := Lib.hid hC
  have HJ0 := Lib.hid (hJ _ _ _ h0 hb2)
  have HF2 := Lib.hid hf2; have HD2 := Lib.hid hd2; have HZ2 := Lib.hid hz2
  have G0 := hd2.c 0 (by omega); have G1 := hf2.c2
  clear hJ hY hC h0 hb2 hf2 hd2 hz2 o2 o3 o4 hok
  refine callsIn_of_wp Try.func86 rfl trivial ?_ rfl
  simp only [Try.ntmps86, List.size_toArray, List.length_cons, List.length_nil, Nat.reduceAdd, Nat.reduceSub, Array.replicate_succ, Array.replicate_zero, List.push_toArray, List.append_toArray, List.nil_append, List.cons_append]
  gi_wp2
  clear hW2 G0 G1
  gi_loopw [9] (fun i wr => ∃ k : Nat, i = .int .i64 (k : Int) ∧ k ≤ F ∧ W.heap.size + 2 ≤ wr.heap.size ∧ J (tn D k) wr ∧ FlAt wr W.heap.size p D.n c q D.m d (F : Int) ∧ DvAt wr (W.heap.size + 1) (gv D k)) (fun i _ => F - (intOf i).toNat)
  case atStart => exact ⟨0, rfl, Nat.zero_le _, by rw [HZ2.out]; exact Nat.le_refl _, HJ0.out, HF2.out, HD2.out⟩
  case round =>
    obtain ⟨k, rfl, hk, hsz, hj, hfl, hdv⟩ := hrel
    have HJJ := Lib.hid hj; have HFL := Lib.hid hfl; have HDV := Lib.hid hdv; have HSZ := Lib.hid hsz
    clear hj hfl hdv hsz HJ0 HF2 HD2 HZ2
    by_cases hlt : k < F
    · have c0 := HFL.out.c0
      have c1 := HFL.out.c1
      have c2 := HFL.out.c2
      have g0 := HDV.out.c 0 (by omega)
      have g1 := HDV.out.c 1 (by omega)
      have g2 := HDV.out.c 2 (by omega)
      have g3 := HDV.out.c 3 (by omega)
      have g4 := HDV.out.c 4 (by omega)
      have HN := Lib.hid (next_any D (gv D k) p q c d (F : Int) wr HOK.out (HC.out _ _ HJJ.out) (gv_5 HOK.out k))
      have j : (k : Int) < (F : Int) := by omega
      cases hnx : nx D (gv D k) with
      | none =>
        rw [hnx] at HN
        have f2 : (none : Option Nat).isSome = false := rfl
        have HS := Lib.hid (stop_stays hnx (show k ≤ F by omega)).2
        clear hnx
        gi_wp2
        refine ⟨trivial, (fun h => by cases h), ?_⟩
        refine (callsIn_wide.2 HN.out).mono ?_
        rintro e w3 ⟨rfl, hb3⟩
        have HB3 := Lib.hid hb3; clear hb3
        gi_wp2
        refine ⟨(fun _ h => by cases h), ?_⟩
        gi_wp2
        refine bodyPost_ret (results_none rfl _ _ _) rfl ?_
        exact ⟨⟨_, rfl⟩, .inl ⟨_, HS.out.symm, HJ.out _ _ _ HJJ.out (HB3.out.mono (by have := HSZ.out; omega))⟩⟩
      | some x =>
        rw [hnx] at HN
        have f1 : onI (some x) = (x : Int) := rfl
        have f2 : (some x : Option Nat).isSome = true := rfl
        have hxl := (nx_lt hnx).1
        have hx5 : x < 5 := by omega
        have hx5i : (x : Int) < 5 := by omega
        obtain ⟨hs1, hs2⟩ := nx_some_next hnx
        have HS1 := Lib.hid hs1; have HS2 := Lib.hid hs2
        have hpf := tn_pre (D := D) (show k + 1 ≤ F by omega)
        have HPF := Lib.hid hpf
        clear hnx hs1 hs2 hpf
        gi_wp2
        refine ⟨trivial, (fun h => by cases h), ?_⟩
        refine (callsIn_wide.2 HN.out).mono ?_
        rintro e w3 ⟨rfl, hb3⟩
        have HB3 := Lib.hid hb3; have HJ3 := Lib.hid (HJ.out _ _ _ HJJ.out (hb3.mono (by have := HSZ.out; omega)))
        have HF3 := Lib.hid (HFL.out.blk (hb3.block _ HFL.out.lt))
        have HD3 := Lib.hid (HDV.out.blk (hb3.block _ HDV.out.lt))
        clear hb3 c0 c1 c2 g0 g1 g2 g3 g4
        have hyy := HY.out (m - 1) _ x w3 HJ3.out hxl
        obtain ⟨fn, tmps, assign, body, hy, hR⟩ := hyy
        have HRR := Lib.hid hR; clear hR
        gi_wp2
        refine ⟨(fun h => by cases h), ?_⟩
        refine HRR.out.mono ?_
        rintro e W' (⟨rfl, hj4, hk4⟩ | ⟨rfl, hx4⟩)
        · have HJ4 := Lib.hid hj4
          have HF4 := Lib.hid (HF3.out.blk (hk4.same _ (by omega) HF3.out.lt))
          have HD4 := Lib.hid (HD3.out.blk (hk4.same _ (by omega) HD3.out.lt))
          have HS4 : Hid (W.heap.size + 2 ≤ W'.heap.size) := by have := HSZ.out; have := HB3.out.size; have := hk4.size; show _ ≤ _; omega
          clear hj4 hk4 hy
          have gx := HD4.out.c x hx5
          have fx := HD4.out.fz x
          have hgb := gv_5 HOK.out k x hx5
          have ew : IntKind.i64.wrap (gv D k x + 1) = gv D k x + 1 := IntWalk.i64_in _ (by omega)
          clear hgb
          gi_wp2
          go_roundw
          case rel => exact ⟨k + 1, by go_num, by omega, by simpa using HS4.out, by rw [HS2.out]; exact HJ.out _ _ _ HJ4.out ((Below.refl W.heap.size W').setCell (Nat.le_succ _) _), HF4.out.blk (((Below.refl (W.heap.size + 1) W').setCell (Nat.le_refl _) _).block _ (Nat.lt_succ_self _)), by rw [HS1.out]; exact HD4.out.set hx5⟩
          case measure => simp [intOf]; omega
        · have HX4 := Lib.hid hx4; clear hx4
          gi_wp2
          refine bodyPost_ret (results_none rfl _ _ _) rfl ?_
          exact ⟨⟨_, rfl⟩, .inr ⟨_, by rw [← HS2.out]; exact HPF.out, HX4.out⟩⟩
    · have j : decide ((k : Int) < (F : Int)) = false := by simp; omega
      obtain rfl : k = F := by omega
      clear hk
      gi_wp2
      go_end0
      exact ⟨⟨_, rfl⟩, .inl ⟨_, rfl, HJJ.out⟩⟩
end Go.Proofs.Ythbicbmlbblflaa
