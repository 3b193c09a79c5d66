/- Boxes of mouths: who has a gauge, and from which flow on. -/
import Derived.Test.YthbicbmlbblflaaA5

set_option linter.unusedSimpArgs false

set_option linter.unusedVariables false

namespace Go.Proofs.Ythbicbmlbblflaa

open Go.RowKit Go.Shelf
attribute [local go_sem] Oper.semAt_some

/-- a number lies in block b -/
structure OneAt (w : World) (b : Nat) (v : Value) : Prop where
  lt : b < w.heap.size
  c : w.cell? ⟨b, 0, none⟩ = some v
  fz : ∀ i, w.frozen? ⟨b, i, none⟩ = false
theorem OneAt.blk {w w' : World} {b : Nat} {v : Value} (h : OneAt w b v) (e : w'.heap[b]? = w.heap[b]?) : OneAt w' b v := by
  refine ⟨?_, (World.cell?_of_block (a := ⟨b, 0, none⟩) e).trans h.c, fun i => (World.frozen?_of_block (a := ⟨b, i, none⟩) e).trans (h.fz i)⟩
  rcases Nat.lt_or_ge b w'.heap.size with h' | h'
  · exact h'
  · rw [Array.getElem?_eq_none h', Array.getElem?_eq_getElem h.lt] at e; cases e
theorem OneAt.set {w : World} {b : Nat} {v : Value} (h : OneAt w b v) (u : Value) : OneAt (w.setCell ⟨b, 0, none⟩ u) b u := by
  have hc := h.c
  have hf := h.fz
  exact ⟨by simpa using h.lt, by go_simp, fun i => by go_simp⟩
theorem OneAt.new (w : World) (v : Value) (t : TypeId) : OneAt (w.alloc (Obj.cells #[v] t)) w.heap.size v := ⟨by simp, by go_simp, fun i => by go_simp⟩
def wlen (l : List Nat) : Int := l.foldl (fun a _ => wrap64 (a + 1)) 0
theorem wlen_snoc (l : List Nat) (q : Nat) : wlen (l ++ [q]) = wrap64 (wlen l + 1) := by simp [wlen]
theorem wlen_eq : ∀ l : List Nat, l.length ≤ 1000 → wlen l = l.length := by
  intro l
  suffices h : ∀ n, n ≤ l.length → l.length ≤ 1000 → wlen (l.take n) = (n : Int) by
    intro hl; have := h l.length (Nat.le_refl _) hl; rwa [List.take_length] at this
  intro n
  induction n with
  | zero => intros; rfl
  | succ n ih =>
    intro hn hl
    have ih := ih (by omega) hl
    rw [List.take_succ_eq_append_getElem (by omega), wlen_snoc, ih]
    rw [IntWalk.wrap64_in _ (by omega)]
    omega
def lastN (l : List Nat) : Int := match l.getLast? with | none => 0 | some q => (q : Int)
theorem lastN_snoc (l : List Nat) (q : Nat) : lastN (l ++ [q]) = (q : Int) := by simp [lastN]
theorem tn_full {D : Bx} : ∀ {k : Nat}, nx D (gv D k) ≠ none → (tn D k).length = k
  | 0, _ => rfl
  | k + 1, h => by
    cases h2 : nx D (gv D k) with
    | none => rw [(nx_none_next h2).1] at h; exact absurd h2 h
    | some q =>
      have := tn_full (D := D) (k := k) (by rw [h2]; simp)
      rw [(nx_some_next h2).2]; simp [this]
/-- the quarter of a gauge is the last one of the turns, if there are so many -/
theorem turn_is (D : Bx) (k : Nat) : (nx D (gv D k) = none ∧ (tn D (k + 1)).length < k + 1) ∨ ∃ q, nx D (gv D k) = some q ∧ (tn D (k + 1)).length = k + 1 ∧ lastN (tn D (k + 1)) = (q : Int) := by
  cases h : nx D (gv D k) with
  | none =>
    refine .inl ⟨rfl, ?_⟩
    rw [(nx_none_next h).2]
    have := tn_le D k
    omega
  | some q =>
    refine .inr ⟨q, rfl, ?_, ?_⟩
    · have := tn_full (D := D) (k := k) (by rw [h]; simp)
      rw [(nx_some_next h).2]; simp [this]
    · rw [(nx_some_next h).2, lastN_snoc]
/-- what holds while the turns are counted: w its world at the start -/
structure TI (w : World) (D : Bx) (p q : Option Addr) (c d F : Nat) (u v : Int) (W : World) : Prop where
  f : FlAt W w.heap.size p D.n c q D.m d (F : Int)
  r : OneAt W (w.heap.size + 1) (.int .i64 u)
  h : OneAt W (w.heap.size + 1 + 1) (.int .i64 v)
  b : Below w.heap.size w W
theorem TI.below {w : World} {D : Bx} {p q : Option Addr} {c d F : Nat} {u v : Int} {A A' : World} {K : Nat} (h : TI w D p q c d F u v A) (k : Below K A A') (hK : w.heap.size + 3 ≤ K) : TI w D p q c d F u v A' :=
  ⟨h.f.blk (k.block _ (by omega)), h.r.blk (k.block _ (by omega)), h.h.blk (k.block _ (by omega)), h.b.trans (k.mono (by omega))⟩
theorem three_t (w : World) (p q : Option Addr) (n m c d : Nat) (fl : Int) : ∃ w3, ((((w.alloc (Obj.cells #[Value.slice p n c, Value.slice q m d, Value.int .i64 fl] 81)).alloc (Obj.cells #[Value.int .i64 0] 3)).alloc (Obj.cells #[Value.int .i64 0] 3)).setCell ⟨w.heap.size + 1 + 1, 0, none⟩ (.int .i64 0)) = w3 ∧
    Below w.heap.size w w3 ∧ w3.heap.size = w.heap.size + 3 ∧ FlAt w3 w.heap.size p n c q m d fl ∧ OneAt w3 (w.heap.size + 1) (.int .i64 0) ∧ OneAt w3 (w.heap.size + 1 + 1) (.int .i64 0) := by
  refine ⟨_, rfl, bS (bA (bA (bA (Below.refl _ _) _) _) _) (by simp; omega) _, by simp, ⟨by simp; omega, by go_simp, by go_simp, by go_simp⟩, ⟨by simp, by go_simp, fun i => by go_simp⟩, ⟨by simp, by go_simp, fun i => by go_simp⟩⟩
set_option maxRecDepth 100000 in
set_option maxHeartbeats 4000000 in
theorem turnM_any (D : Bx) (p q : Option Addr) (c d k : Nat) (w : World) (hok : D.ok = true) (hk : k < 40) (hi : BxIn w w.heap.size D p q) :
    CallsIn Fence.wide 9 Try.prog 70 #[.agg #[.slice p D.n c, .slice q D.m d, .int .i64 ((k + 1 : Nat) : Int)]] w fun e w' => e = .returned (.tuple #[.int .i64 (onI (nx D (gv D k))), .bool (nx D (gv D k)).isSome]) ∧ Below w.heap.size w w' := by
  obtain ⟨o1, o2, o3, o4⟩ := Bx.ok_parts hok
  obtain ⟨F, hF⟩ : ∃ F, k + 1 = F := ⟨_, rfl⟩
  rw [hF]
  obtain ⟨w3, hw3, hb3, hz3, hf3, hd3, he3⟩ := three_t w p q D.n D.m c d (F : Int)
  have hTI : TI w D p q c d F (lastN []) (wlen []) w3 := ⟨hf3, hd3, he3, hb3⟩
  have HTI := Lib.hid hTI; have HI := Lib.hid hi; have HZ := Lib.hid hz3; have HF := Lib.hid hF
  have c0 := hf3.c0; have c1 := hf3.c1; have c2 := hf3.c2
  have hF40 : F ≤ 40 := by omega
  clear hb3 hz3 hf3 hd3 he3 hTI hi o2 o3 o4 hF
  refine callsIn_of_wp_marks Try.func70 rfl trivial ?_ rfl
  simp only [Try.ntmps70, List.size_toArray, List.length_cons, List.length_nil, Nat.reduceAdd, Nat.reduceSub, Array.replicate_succ, Array.replicate_zero, List.push_toArray, List.append_toArray, List.nil_append, List.cons_append]
  gi_wp2
  refine rangeF rfl (by omega) (gf := 86) (fb := #[.agg #[.slice p D.n c, .slice q D.m d, .int .i64 (F : Int)]]) (lb := #[]) rfl trivial (enters_of Try.func86 (by kernel_rfl) rfl)
    (encs := fun x : Nat => #[Value.int .i64 (x : Int)]) (fun x _ => x < 5) (fun xs W => TI w D p q c d F (lastN xs) (wlen xs) W) (fun _ _ _ => False) (fun xs => xs = tn D F) (fun pre => pre <+: tn D F) (fun W => Below w.heap.size w W) (fun s A h => h.b) (w.heap.size + 3) (by have := HZ.out; omega)
    (fun _ => rfl) (fun s A B h k => h.below k (by have := HZ.out; omega)) (fun _ _ _ _ _ h _ => h) HTI.out ?seq ?round ?done ?stop
  case seq =>
    intro l J Jx W hl1 hl2 hB hJ hJb hJxb hJK hY h0
    exact turns_any D p q c d l F _ J Jx W hok hF40 hJ (fun m pre x A hj hp => yieldAny rfl m (hY pre x A hj (by omega))) (fun s A h => HI.out.bel (hJK _ _ h)) h0
  case round =>
    rintro l pre x W hl hr' hI hx1
    gi_wp2
    refine ⟨Below.refl _ _, fun W₂ hg2 hs2' hI2 => ?_⟩
    have gx := hI2.r.c
    have fx := hI2.r.fz
    have gy := hI2.h.c
    have fy := hI2.h.fz
    have HI2 := Lib.hid hI2
    clear hI hI2 hg2 hs2' hr' c0 c1 c2 hw3
    gi_wp2
    refine ⟨⟨by simp, fun k hk hlt => by rw [setCell_block (by simp; omega), setCell_block (by simp; omega)]⟩, ?_⟩
    show TI w D p q c d F (lastN (pre ++ [x])) (wlen (pre ++ [x])) _
    rw [lastN_snoc, wlen_snoc]
    exact ⟨HI2.out.f.blk (by rw [setCell_block (by simp; omega), setCell_block (by simp)]), (HI2.out.r.set _).blk (setCell_block (by simp)), (HI2.out.h.blk (setCell_block (by simp))).set _, bS (bS HI2.out.b (by simp) _) (by simp; omega) _⟩
  case done =>
    rintro D' xs W hD rfl hI hK
    have hl := tn_le D F
    rw [wlen_eq _ (by omega)] at hI
    have g0 := hI.f.c2
    have r0 := hI.r.c
    have h0 := hI.h.c
    have rf := hI.r.fz
    have HIW := Lib.hid hI; have HK := Lib.hid hK
    have HDZ := Lib.hid (show w.heap.size + 3 ≤ D' by have := HZ.out; omega)
    have HT := turn_is D k
    rw [HF.out] at HT
    have HL := Lib.hid hl
    clear hI hK hl hD c0 c1 c2 hw3
    rcases HT with ⟨t1, t2⟩ | ⟨qq, t1, t2, t3⟩
    · have T1 := Lib.hid t1
      have t2' : ((tn D F).length : Int) < (F : Int) := by omega
      clear t1 t2
      gi_wp2
      refine ⟨by simp, .inl ⟨_, _, rfl, run_takeDeferred ((setCell_block (by have := HDZ.out; simp; omega)).trans HK.out), ?_⟩⟩
      have hd6 : OneAt ((W.setCell ⟨w.heap.size + 1, 0, none⟩ (.int .i64 0)).putObj D' (.deferred none)) (w.heap.size + 1) (.int .i64 0) := (HIW.out.r.set _).blk (World.putObj_heap_other (by have := HDZ.out; omega))
      have k0 := hd6.c
      refine ⟨.tuple #[.int .i64 0, .bool false], by simp [results, Try.f70, go_sem, k0], by rw [T1.out]; rfl, ?_⟩
      exact (bS HIW.out.b (by simp) _).trans (below_putObj _ _ (by have := HDZ.out; omega))
    · have T1 := Lib.hid t1
      rw [t3] at r0
      have t2' : ¬ ((tn D F).length : Int) < (F : Int) := by omega
      clear t1 t2 t3
      gi_wp2
      refine ⟨by simp, .inl ⟨_, _, rfl, run_takeDeferred ((setCell_block (by have := HDZ.out; simp; omega)).trans HK.out), ?_⟩⟩
      have hd6 : OneAt ((W.setCell ⟨w.heap.size + 1, 0, none⟩ (.int .i64 (qq : Int))).putObj D' (.deferred none)) (w.heap.size + 1) (.int .i64 (qq : Int)) := (HIW.out.r.set _).blk (World.putObj_heap_other (by have := HDZ.out; omega))
      have k0 := hd6.c
      refine ⟨.tuple #[.int .i64 (qq : Int), .bool true], by simp [results, Try.f70, go_sem, k0], by rw [T1.out]; rfl, ?_⟩
      exact (bS HIW.out.b (by simp) _).trans (below_putObj _ _ (by have := HDZ.out; omega))
  case stop =>
    rintro D' c' pre W _ _ h _
    exact h.elim
end Go.Proofs.Ythbicbmlbblflaa
