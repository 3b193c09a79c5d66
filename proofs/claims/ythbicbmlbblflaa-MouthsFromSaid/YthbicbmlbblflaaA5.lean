/- Boxes of mouths: the gauges of a flow, by its turns. -/
import Derived.Test.YthbicbmlbblflaaA4

set_option linter.unusedSimpArgs false

set_option linter.unusedVariables false

namespace Go.Proofs.Ythbicbmlbblflaa

open Go.RowKit Go.Shelf
attribute [local go_sem] Oper.semAt_some

theorem three_boxes (w : World) (p q : Option Addr) (n m c d : Nat) (fl : Int) : ∃ w3, ((w.alloc (Obj.cells #[Value.slice p n c, Value.slice q m d, Value.int .i64 fl] 81)).alloc (Obj.cells #[Value.int .i64 0, Value.int .i64 0, Value.int .i64 0, Value.int .i64 0, Value.int .i64 0] 73)).alloc (Obj.cells #[Value.int .i64 0, Value.int .i64 0, Value.int .i64 0, Value.int .i64 0, Value.int .i64 0] 73) = w3 ∧
    Below w.heap.size w w3 ∧ w3.heap.size = w.heap.size + 3 ∧ FlAt w3 w.heap.size p n c q m d fl ∧ DvAt w3 (w.heap.size + 1) (fun _ => 0) ∧ DvAt w3 (w.heap.size + 1 + 1) (fun _ => 0) := by
  obtain ⟨w2, h2, hb, hz, hf, hd⟩ := two_boxes w p q n m c d fl
  rw [h2]
  have hb3 : Below w2.heap.size w2 (w2.alloc (Obj.cells #[Value.int .i64 0, Value.int .i64 0, Value.int .i64 0, Value.int .i64 0, Value.int .i64 0] 73)) := bA (Below.refl _ _) _
  refine ⟨_, rfl, bT hb hb3, by simp; omega, hf.blk (hb3.block _ hf.lt), hd.blk (hb3.block _ hd.lt), ?_⟩
  have := DvAt.new w2 (fun _ => 0)
  rw [hz] at this
  exact this
/-- what holds while a division goes on: w its world at the start -/
structure DI (w : World) (D : Bx) (p q : Option Addr) (c d F : Nat) (g : Nat → Int) (W : World) : Prop where
  f : FlAt W w.heap.size p D.n c q D.m d (F : Int)
  r : DvAt W (w.heap.size + 1) (fun _ => 0)
  h : DvAt W (w.heap.size + 1 + 1) g
  b : Below w.heap.size w W
theorem DI.below {w : World} {D : Bx} {p q : Option Addr} {c d F : Nat} {g : Nat → Int} {A A' : World} {K : Nat} (h : DI w D p q c d F g A) (k : Below K A A') (hK : w.heap.size + 3 ≤ K) : DI w D p q c d F g A' :=
  ⟨h.f.blk (k.block _ (by omega)), h.r.blk (k.block _ (by omega)), h.h.blk (k.block _ (by omega)), h.b.trans (k.mono (by omega))⟩
def upw (g : Nat → Int) (q : Nat) : Nat → Int := fun i => if i = q then wrap64 (g q + 1) else g i
def upws (l : List Nat) : Nat → Int := l.foldl upw (fun _ => 0)
theorem upws_snoc (l : List Nat) (q : Nat) : upws (l ++ [q]) = upw (upws l) q := by simp [upws]
theorem DvAt.setv {w : World} {b q : Nat} {g : Nat → Int} (h : DvAt w b g) (hq : q < 5) : DvAt (w.setCell ⟨b, q, none⟩ (.int .i64 (wrap64 (g q + 1)))) b (upw g q) := by
  have hc := h.c q hq
  refine ⟨by simpa using h.lt, fun i hi => ?_, fun i => by have := h.fz i; simpa using this⟩
  by_cases e : i = q
  · subst e
    have hf := h.fz i
    rw [show upw g i i = wrap64 (g i + 1) from if_pos rfl]
    go_simp
  · rw [show upw g q i = g i from if_neg e]
    rw [World.cell?_setCell_other _ _ _ _ (by simp [e])]
    exact h.c i hi
theorem setCell_block {w : World} {p : Addr} {v : Value} {k : Nat} (h : k ≠ p.block) : (w.setCell p v).heap[k]? = w.heap[k]? := Below.heap_setCell _ _ _ _ h
theorem ups_bd : ∀ (l : List Nat) (i : Nat), 0 ≤ ups l i ∧ ups l i ≤ l.length := by
  intro l
  suffices h : ∀ (l : List Nat) (g : Nat → Int) (i : Nat), g i ≤ l.foldl up g i ∧ l.foldl up g i ≤ g i + l.length by
    intro i; have := h l (fun _ => 0) i; unfold ups; omega
  intro l
  induction l with
  | nil => intro g i; simp
  | cons x l ih =>
    intro g i
    have := ih (up g x) i
    have h2 : up g x i = g i ∨ up g x i = g i + 1 := by unfold up; split <;> simp
    simp only [List.foldl_cons, List.length_cons]
    omega
theorem upws_ups : ∀ l : List Nat, l.length ≤ 1000 → upws l = ups l := by
  intro l
  suffices h : ∀ n, n ≤ l.length → l.length ≤ 1000 → upws (l.take n) = ups (l.take n) by
    intro hl; have := h l.length (Nat.le_refl _) hl; rwa [List.take_length] at this
  intro n
  induction n with
  | zero => intros; rfl
  | succ n ih =>
    intro hn hl
    have ih := ih (by omega) hl
    rw [List.take_succ_eq_append_getElem (by omega), upws_snoc, ups_snoc, ih]
    funext i
    have hb := ups_bd (l.take n) (l[n])
    rw [List.length_take] at hb
    by_cases e : i = l[n]
    · rw [show upw (ups (l.take n)) l[n] i = wrap64 (ups (l.take n) l[n] + 1) from if_pos e, e, up_same]
      exact IntWalk.wrap64_in _ (by omega)
    · rw [show upw (ups (l.take n)) l[n] i = ups (l.take n) i from if_neg e, up_ne _ e]
theorem set_five (W : World) {b : Nat} (g : Nat → Int) {r : Nat → Int} (h : DvAt W b r) : ∃ W5, (((((W.setCell ⟨b, 0, none⟩ (.int .i64 (g 0))).setCell ⟨b, 1, none⟩ (.int .i64 (g 1))).setCell ⟨b, 2, none⟩ (.int .i64 (g 2))).setCell ⟨b, 3, none⟩ (.int .i64 (g 3))).setCell ⟨b, 4, none⟩ (.int .i64 (g 4))) = W5 ∧
    DvAt W5 b g ∧ (∀ k, k ≠ b → W5.heap[k]? = W.heap[k]?) ∧ Below b W W5 := by
  have h0 := h.c 0 (by omega)
  have h1 := h.c 1 (by omega)
  have h2 := h.c 2 (by omega)
  have h3 := h.c 3 (by omega)
  have h4 := h.c 4 (by omega)
  have hf := h.fz
  refine ⟨_, rfl, ⟨by simpa using h.lt, dv_cell (by go_simp) (by go_simp) (by go_simp) (by go_simp) (by go_simp), fun i => by go_simp⟩, fun k hk => ?_, ?_⟩
  · iterate 5 rw [setCell_block hk]
  · exact (((((Below.refl b W).setCell (Nat.le_refl _) _).setCell (Nat.le_refl _) _).setCell (Nat.le_refl _) _).setCell (Nat.le_refl _) _).setCell (Nat.le_refl _) _
set_option maxRecDepth 100000 in
set_option maxHeartbeats 4000000 in
theorem divideM_any (D : Bx) (p q : Option Addr) (c d F : Nat) (w : World) (hok : D.ok = true) (hF : F ≤ 40) (hi : BxIn w w.heap.size D p q) :
    CallsIn Fence.wide 9 Try.prog 84 #[.agg #[.slice p D.n c, .slice q D.m d, .int .i64 (F : Int)]] w fun e w' => e = .returned (.agg #[.int .i64 (gv D F 0), .int .i64 (gv D F 1), .int .i64 (gv D F 2), .int .i64 (gv D F 3), .int .i64 (gv D F 4)]) ∧ Below w.heap.size w w' := by
  obtain ⟨o1, o2, o3, o4⟩ := Bx.ok_parts hok
  obtain ⟨w3, hw3, hb3, hz3, hf3, hd3, he3⟩ := three_boxes w p q D.n D.m c d (F : Int)
  have hDI : DI w D p q c d F (upws []) w3 := ⟨hf3, hd3, he3, hb3⟩
  have HDI := Lib.hid hDI; have HI := Lib.hid hi; have HZ := Lib.hid hz3
  have c0 := hf3.c0; have c1 := hf3.c1; have c2 := hf3.c2
  clear hb3 hz3 hf3 hd3 he3 hDI hi o2 o3 o4
  refine callsIn_of_wp_marks Try.func84 rfl trivial ?_ rfl
  simp only [Try.ntmps84, List.size_toArray, List.length_cons, List.length_nil, Nat.reduceAdd, Nat.reduceSub, Array.replicate_succ, Array.replicate_zero, List.push_toArray, List.append_toArray, List.nil_append, List.cons_append]
  gi_wp2
  refine rangeF rfl (by omega) (gf := 86) (fb := #[.agg #[.slice p D.n c, .slice q D.m d, .int .i64 (F : Int)]]) (lb := #[]) rfl trivial (enters_of Try.func86 (by kernel_rfl) rfl)
    (encs := fun x : Nat => #[Value.int .i64 (x : Int)]) (fun x _ => x < 5) (fun xs W => DI w D p q c d F (upws xs) W) (fun _ _ _ => False) (fun xs => xs = tn D F) (fun pre => pre <+: tn D F) (fun W => Below w.heap.size w W) (fun s A h => h.b) (w.heap.size + 3) (by have := HZ.out; omega)
    (fun _ => rfl) (fun s A B h k => h.below k (by have := HZ.out; omega)) (fun _ _ _ _ _ h _ => h) HDI.out ?seq ?round ?done ?stop
  case seq =>
    intro l J Jx W hl1 hl2 hB hJ hJb hJxb hJK hY h0
    exact turns_any D p q c d l F _ J Jx W hok hF hJ (fun m pre x A hj hp => yieldAny rfl m (hY pre x A hj (by omega))) (fun s A h => HI.out.bel (hJK _ _ h)) h0
  case round =>
    rintro l pre x W hl hr' hI hx1
    gi_wp2
    refine ⟨Below.refl _ _, fun W₂ hg2 hs2' hI2 => ?_⟩
    have gx := hI2.h.c x hx1
    have fx := hI2.h.fz x
    have hx5i : (x : Int) < 5 := by omega
    have HI2 := Lib.hid hI2
    clear hI hI2 hg2 hs2' hr' c0 c1 c2 hw3
    gi_wp2
    refine ⟨⟨by simp, fun k hk hlt => setCell_block (by simp; omega)⟩, ?_⟩
    show DI w D p q c d F (upws (pre ++ [x])) _
    rw [upws_snoc]
    exact ⟨HI2.out.f.blk (setCell_block (by simp; omega)), HI2.out.r.blk (setCell_block (by simp)), HI2.out.h.setv hx1, bS HI2.out.b (by simp; omega) _⟩
  case done =>
    rintro D' xs W hD rfl hI hK
    have hl := tn_le D F
    rw [upws_ups _ (by omega), ← gv_ups] at hI
    have g0 := hI.h.c 0 (by omega)
    have g1 := hI.h.c 1 (by omega)
    have g2 := hI.h.c 2 (by omega)
    have g3 := hI.h.c 3 (by omega)
    have g4 := hI.h.c 4 (by omega)
    have r0 := hI.r.c 0 (by omega)
    have r1 := hI.r.c 1 (by omega)
    have r2 := hI.r.c 2 (by omega)
    have r3 := hI.r.c 3 (by omega)
    have r4 := hI.r.c 4 (by omega)
    have rf := hI.r.fz
    have HIW := Lib.hid hI; have HK := Lib.hid hK
    have HDZ := Lib.hid (show w.heap.size + 3 ≤ D' by have := HZ.out; omega)
    clear hI hK hl hD c0 c1 c2 hw3
    gi_wp2
    obtain ⟨W5, hW5, hd5, hk5, hb5⟩ := set_five W (gv D F) HIW.out.r
    rw [hW5]
    refine ⟨by simp, .inl ⟨_, _, rfl, run_takeDeferred ((hk5 _ (by have := HDZ.out; omega)).trans HK.out), ?_⟩⟩
    have hd6 : DvAt (W5.putObj D' (.deferred none)) (w.heap.size + 1) (gv D F) := hd5.blk (World.putObj_heap_other (by have := HDZ.out; omega))
    have k0 := hd6.c 0 (by omega)
    have k1 := hd6.c 1 (by omega)
    have k2 := hd6.c 2 (by omega)
    have k3 := hd6.c 3 (by omega)
    have k4 := hd6.c 4 (by omega)
    refine ⟨.agg #[.int .i64 (gv D F 0), .int .i64 (gv D F 1), .int .i64 (gv D F 2), .int .i64 (gv D F 3), .int .i64 (gv D F 4)], by simp [results, Try.f84, go_sem, k0, k1, k2, k3, k4], rfl, ?_⟩
    exact (HIW.out.b.trans (hb5.mono (by omega))).trans (below_putObj W5 _ (by have := HDZ.out; omega))
  case stop =>
    rintro D' c' pre W _ _ h _
    exact h.elim
end Go.Proofs.Ythbicbmlbblflaa
