/- Boxes of mouths: from which flow on a quarter has so many gauges. -/
import Derived.Test.YthbicbmlbblflaaC15

import Derived.Test.YthbicbmlbblflaaA6

set_option linter.unusedSimpArgs false

set_option linter.unusedVariables false

namespace Go.Proofs.Ythbicbmlbblflaa

open Go.RowKit Go.Shelf
attribute [local go_sem] Oper.semAt_some

theorem count_snoc (l : List Nat) (x i : Nat) : (l ++ [x]).count i = l.count i + if x = i then 1 else 0 := by
  rw [List.count_append, List.count_singleton]
  by_cases h : x = i <;> simp [h]
theorem ups_count : ∀ (n : Nat) (l : List Nat), l.length = n → ∀ i, ups l i = (l.count i : Int)
  | 0, l, h, i => by rw [List.eq_nil_of_length_eq_zero h]; rfl
  | n + 1, l, h, i => by
    rcases List.eq_nil_or_concat l with rfl | ⟨l', x, rfl⟩
    · simp at h
    · first | rw [List.concat_eq_append] at * | skip
      rw [ups_snoc, count_snoc]
      unfold up
      rw [ups_count n l' (by simpa using h) i]
      by_cases e : i = x
      · rw [if_pos e, if_pos e.symm]; omega
      · rw [if_neg e, if_neg (Ne.symm e)]; omega
theorem gv_count (D : Bx) (f i : Nat) : gv D f i = ((tn D f).count i : Int) := by rw [gv_ups]; exact ups_count _ _ rfl i
theorem len_tn {D : Bx} {e : Nat} : ∀ {f : Nat}, f ≤ e → f ≤ (tn D e).length → (tn D f).length = f
  | 0, _, _ => rfl
  | f + 1, h1, h2 => by
    have ih := len_tn (D := D) (e := e) (f := f) (by omega) (by omega)
    cases h : nx D (gv D f) with
    | none =>
      have := (stop_stays h (show f ≤ e by omega)).2
      rw [this, ih] at h2; omega
    | some q => rw [(nx_some_next h).2]; simp [ih]
theorem pre_tn {D : Bx} {e : Nat} {l : List Nat} (h : l <+: tn D e) : l.length ≤ e ∧ l = tn D l.length := by
  have h1 := h.length_le
  have h2 := tn_le D e
  have h3 := len_tn (D := D) (e := e) (f := l.length) (by omega) h1
  refine ⟨by omega, ?_⟩
  have h4 := tn_pre (D := D) (f := l.length) (e := e) (by omega)
  exact (List.prefix_of_prefix_length_le h h4 (by omega)).eq_of_length (by omega)
theorem gv_monoQ {D : Bx} {f e : Nat} (h : f ≤ e) (i : Nat) : gv D f i ≤ gv D e i := by
  rw [gv_count, gv_count]
  have := (tn_pre (D := D) h).sublist.count_le (a := i)
  omega
/-- whether a quarter has so many of a flow -/
def hasB (D : Bx) (q : Nat) (G : Nat) (f : Nat) : Bool := decide ((G : Int) ≤ gv D f q)
theorem fsN_none {P : Nat → Bool} : ∀ {n : Nat}, (∀ i, i < n → P i = false) → fsN P n = none
  | 0, _ => rfl
  | n + 1, h => fsN_miss (fsN_none fun i hi => h i (by omega)) (h n (by omega))
theorem from_stop {D : Bx} {q G : Nat} {l : List Nat} (h : l ++ [q] <+: tn D 40) (hc : l.count q + 1 = G) : fsN (hasB D q G) 41 = some (l.length + 1) ∧ l.length + 1 ≤ 40 := by
  obtain ⟨h1, h2⟩ := pre_tn h
  simp only [List.length_append, List.length_singleton] at h1 h2
  have h3 : l <+: tn D 40 := (List.prefix_append l [q]).trans h
  have h4 := (pre_tn h3).2
  refine ⟨fsN_hit (k := l.length + 1) (fsN_none fun i hi => ?_) ?_ (by omega), h1⟩
  · unfold hasB
    rw [decide_eq_false_iff_not]
    have := gv_monoQ (D := D) (f := i) (e := l.length) (by omega) q
    rw [gv_count D l.length, ← h4] at this
    omega
  · unfold hasB
    rw [decide_eq_true_eq, gv_count, ← h2, count_snoc, if_pos rfl]; omega
theorem from_done {D : Bx} {q G : Nat} (hc : (tn D 40).count q < G) : fsN (hasB D q G) 41 = none := fsN_none fun i hi => by
  unfold hasB
  rw [decide_eq_false_iff_not]
  have := gv_monoQ (D := D) (f := i) (e := 40) (by omega) q
  rw [gv_count D 40] at this
  omega
/-- what holds while the turns are counted until a quarter has so many -/
structure UI (w : World) (D : Bx) (p q : Option Addr) (c d F : Nat) (a v u : Int) (b : Bool) (W : World) : Prop where
  f : FlAt W w.heap.size p D.n c q D.m d (F : Int)
  q : OneAt W (w.heap.size + 1) (.int .i64 a)
  g : OneAt W (w.heap.size + 1 + 1) (.int .i64 v)
  r : OneAt W (w.heap.size + 1 + 1 + 1) (.int .i64 u)
  i : OneAt W (w.heap.size + 1 + 1 + 1 + 1) (.bool b)
  b : Below w.heap.size w W
theorem UI.below {w : World} {D : Bx} {p q : Option Addr} {c d F : Nat} {a v u : Int} {b : Bool} {A A' : World} {K : Nat} (h : UI w D p q c d F a v u b A) (k : Below K A A') (hK : w.heap.size + 5 ≤ K) : UI w D p q c d F a v u b A' :=
  ⟨h.f.blk (k.block _ (by omega)), h.q.blk (k.block _ (by omega)), h.g.blk (k.block _ (by omega)), h.r.blk (k.block _ (by omega)), h.i.blk (k.block _ (by omega)), h.b.trans (k.mono (by omega))⟩
theorem UI.flow {w : World} {D : Bx} {p q : Option Addr} {c d F : Nat} {a v u : Int} {b : Bool} {A : World} (h : UI w D p q c d F a v u b A) (u' : Int) : UI w D p q c d F a v u' b (A.setCell ⟨w.heap.size + 1 + 1 + 1, 0, none⟩ (.int .i64 u')) :=
  ⟨h.f.blk (setCell_block (by first | (simp; done) | (simp; omega))), h.q.blk (setCell_block (by first | (simp; done) | (simp; omega))), h.g.blk (setCell_block (by first | (simp; done) | (simp; omega))), h.r.set _, h.i.blk (setCell_block (by first | (simp; done) | (simp; omega))), bS h.b (by first | (simp; done) | (simp; omega)) _⟩
theorem UI.gs {w : World} {D : Bx} {p q : Option Addr} {c d F : Nat} {a v u : Int} {b : Bool} {A : World} (h : UI w D p q c d F a v u b A) (v' : Int) : UI w D p q c d F a v' u b (A.setCell ⟨w.heap.size + 1 + 1, 0, none⟩ (.int .i64 v')) :=
  ⟨h.f.blk (setCell_block (by first | (simp; done) | (simp; omega))), h.q.blk (setCell_block (by first | (simp; done) | (simp; omega))), h.g.set _, h.r.blk (setCell_block (by first | (simp; done) | (simp; omega))), h.i.blk (setCell_block (by first | (simp; done) | (simp; omega))), bS h.b (by first | (simp; done) | (simp; omega)) _⟩
theorem UI.is {w : World} {D : Bx} {p q : Option Addr} {c d F : Nat} {a v u : Int} {b : Bool} {A : World} (h : UI w D p q c d F a v u b A) (b' : Bool) : UI w D p q c d F a v u b' (A.setCell ⟨w.heap.size + 1 + 1 + 1 + 1, 0, none⟩ (.bool b')) :=
  ⟨h.f.blk (setCell_block (by first | (simp; done) | (simp; omega))), h.q.blk (setCell_block (by first | (simp; done) | (simp; omega))), h.g.blk (setCell_block (by first | (simp; done) | (simp; omega))), h.r.blk (setCell_block (by first | (simp; done) | (simp; omega))), h.i.set _, bS h.b (by first | (simp; done) | (simp; omega)) _⟩
theorem UI.put {w : World} {D : Bx} {p q : Option Addr} {c d F l : Nat} {a v u : Int} {b : Bool} {A : World} (h : UI w D p q c d F a v u b A) (o : Obj) (hl : w.heap.size + 5 ≤ l) : UI w D p q c d F a v u b (A.putObj l o) :=
  h.below (below_putObj (B := w.heap.size + 5) _ _ hl) (Nat.le_refl _)
theorem five_u (w : World) (p q : Option Addr) (n m c d : Nat) (fl a v : Int) : ∃ w5, (((((w.alloc (Obj.cells #[Value.slice p n c, Value.slice q m d, Value.int .i64 fl] 81)).alloc (Obj.cells #[Value.int .i64 a] 3)).alloc (Obj.cells #[Value.int .i64 v] 3)).alloc (Obj.cells #[Value.int .i64 0] 3)).alloc (Obj.cells #[Value.bool false] 4)) = w5 ∧
    Below w.heap.size w w5 ∧ w5.heap.size = w.heap.size + 5 ∧ FlAt w5 w.heap.size p n c q m d fl ∧ OneAt w5 (w.heap.size + 1) (.int .i64 a) ∧ OneAt w5 (w.heap.size + 1 + 1) (.int .i64 v) ∧ OneAt w5 (w.heap.size + 1 + 1 + 1) (.int .i64 0) ∧ OneAt w5 (w.heap.size + 1 + 1 + 1 + 1) (.bool false) := by
  refine ⟨_, rfl, bA (bA (bA (bA (bA (Below.refl _ _) _) _) _) _) _, by simp, ⟨by simp; omega, by go_simp, by go_simp, by go_simp⟩, ⟨by first | (simp; done) | (simp; omega), by go_simp, fun i => by go_simp⟩, ⟨by first | (simp; done) | (simp; omega), by go_simp, fun i => by go_simp⟩, ⟨by first | (simp; done) | (simp; omega), by go_simp, fun i => by go_simp⟩, ⟨by first | (simp; done) | (simp; omega), by go_simp, fun i => by go_simp⟩⟩
set_option maxRecDepth 100000 in
set_option maxHeartbeats 8000000 in
theorem untilM_any (D : Bx) (p q : Option Addr) (c d A G : Nat) (w : World) (hok : D.ok = true) (hG : 0 < G ∧ G ≤ 20) (hi : BxIn w w.heap.size D p q) :
    CallsIn Fence.wide 9 Try.prog 75 #[.agg #[.slice p D.n c, .slice q D.m d, .int .i64 40], .int .i64 (A : Int), .int .i64 (G : Int)] w fun e w' => e = .returned (.tuple #[.int .i64 (onI (fsN (hasB D A G) 41)), .bool (fsN (hasB D A G) 41).isSome]) ∧ Below w.heap.size w w' := by
  have o1 := (Bx.ok_parts hok).1
  obtain ⟨w5, hw5, hb5, hz5, hf5, hq5, hg5, hr5, hs5⟩ := five_u w p q D.n D.m c d 40 (A : Int) (G : Int)
  have hUI : UI w D p q c d 40 (A : Int) ((G : Int) - (([] : List Nat).count A : Int)) (wlen []) false w5 := ⟨hf5, hq5, by simpa using hg5, hr5, hs5, hb5⟩
  have HUI := Lib.hid hUI; have HI := Lib.hid hi; have HZ := Lib.hid hz5
  have c0 := hf5.c0; have c1 := hf5.c1; have c2 := hf5.c2
  clear hb5 hz5 hf5 hq5 hg5 hr5 hs5 hUI hi
  refine callsIn_of_wp_marks Try.func75 rfl trivial ?_ rfl
  simp only [Try.ntmps75, List.size_toArray, List.length_cons, List.length_nil, Nat.reduceAdd, Nat.reduceSub, Array.replicate_succ, Array.replicate_zero, List.push_toArray, List.append_toArray, List.nil_append, List.cons_append]
  gi_wp2
  refine rangeF rfl (by omega) (gf := 86) (fb := #[.agg #[.slice p D.n c, .slice q D.m d, .int .i64 40]]) (lb := #[]) rfl trivial (enters_of Try.func86 (by kernel_rfl) rfl)
    (encs := fun x : Nat => #[Value.int .i64 (x : Int)]) (fun x _ => x < 5) (fun xs W => xs.count A < G ∧ UI w D p q c d 40 (A : Int) ((G : Int) - (xs.count A : Int)) (wlen xs) false W) (fun cd xs W => cd = .ret ∧ ∃ l v, xs = l ++ [A] ∧ l.count A + 1 = G ∧ UI w D p q c d 40 (A : Int) v (wlen xs) true W) (fun xs => xs = tn D 40) (fun pre => pre <+: tn D 40) (fun W => Below w.heap.size w W) (fun s A h => h.2.b) (w.heap.size + 5) (by have := HZ.out; omega)
    (fun _ => rfl) (fun s A B h k => ⟨h.1, h.2.below k (by have := HZ.out; omega)⟩) (fun cd xs A r o h _ => ⟨h.1, by obtain ⟨l, v, e1, e2, e3⟩ := h.2; exact ⟨l, v, e1, e2, e3.below (below_putObj (B := w.heap.size + 5) _ _ (by have := HZ.out; omega)) (Nat.le_refl _)⟩⟩) ⟨by simp; omega, HUI.out⟩ ?seq ?round ?done ?stop
  case seq =>
    intro l J Jx W hl1 hl2 hB hJ hJb hJxb hJK hY h0
    exact turns_any D p q c d l 40 _ J Jx W hok (by omega) hJ (fun m pre x A hj hp => yieldAny rfl m (hY pre x A hj (by omega))) (fun s A h => HI.out.bel (hJK _ _ h)) h0
  case round =>
    rintro l pre x W hl hr' hI hx1
    gi_wp2
    refine ⟨Below.refl _ _, fun W₂ hg2 hs2' hI2 => ?_⟩
    obtain ⟨hlt, hU⟩ := hI2
    have gq := hU.q.c
    have gg := hU.g.c
    have fg := hU.g.fz
    have gr := hU.r.c
    have fr := hU.r.fz
    have gi := hU.i.c
    have fi := hU.i.fz
    have HU := Lib.hid hU; have HL := Lib.hid hlt
    clear hI hU hg2 hs2' hr' c0 c1 c2 hw5
    by_cases hxA : x = A
    · subst hxA
      have jx : ((x : Int) != (x : Int)) = false := by simp
      have ewg : wrap64 ((G : Int) - (pre.count x : Int) - 1) = (G : Int) - ((pre.count x + 1 : Nat) : Int) := by rw [IntWalk.wrap64_in _ (by omega)]; omega
      have ewg2 : IntKind.i64.wrap ((G : Int) - (pre.count x : Int) - 1) = (G : Int) - ((pre.count x + 1 : Nat) : Int) := by rw [IntWalk.i64_in _ (by omega)]; omega
      have HCN : Hid ((pre ++ [x]).count x = pre.count x + 1) := Lib.hid (by rw [count_snoc, if_pos rfl])
      by_cases hz : pre.count x + 1 = G
      · have jz : (((G : Int) - ((pre.count x + 1 : Nat) : Int)) == 0) = true := by simp; omega
        have HZG := Lib.hid hz
        clear hz
        gi_wp2
        refine ⟨⟨by simp, fun k hk hlt => by rw [setCell_block (by simp; omega), setCell_block (by simp; omega), setCell_block (by simp; omega), setCell_block (by simp; omega)]⟩, rfl, pre, (G : Int) - ((pre.count x : Int) + 1), rfl, HZG.out, ?_⟩
        rw [wlen_snoc]
        exact (((HU.out.flow _).gs _).flow _).is _
      · have jz : (((G : Int) - ((pre.count x + 1 : Nat) : Int)) == 0) = false := by simp; omega
        have HLT := Lib.hid (show pre.count x + 1 < G by omega)
        clear hz
        gi_wp2
        refine ⟨⟨by simp, fun k hk hlt => by rw [setCell_block (by simp; omega), setCell_block (by simp; omega)]⟩, by rw [HCN.out]; exact HLT.out, ?_⟩
        rw [HCN.out, wlen_snoc]
        exact (HU.out.flow _).gs _
    · have jx : ((x : Int) != (A : Int)) = true := by simp; omega
      have HCN : Hid ((pre ++ [x]).count A = pre.count A) := by rw [count_snoc, if_neg hxA]; rfl
      clear hxA
      gi_wp2
      refine ⟨⟨by simp, fun k hk hlt => by rw [setCell_block (by simp; omega)]⟩, by rw [HCN.out]; exact HL.out, ?_⟩
      rw [HCN.out, wlen_snoc]
      exact ⟨HU.out.f.blk (setCell_block (by simp; omega)), HU.out.q.blk (setCell_block (by simp)), HU.out.g.blk (setCell_block (by simp)), HU.out.r.set _, HU.out.i.blk (setCell_block (by simp)), bS HU.out.b (by simp; omega) _⟩
  case done =>
    rintro D' xs W hD rfl ⟨hcn, hU⟩ hK
    have HFD := Lib.hid (from_done hcn)
    have gr := hU.r.c
    have fr := hU.r.fz
    have gi := hU.i.c
    have fi := hU.i.fz
    have HU := Lib.hid hU; have HK := Lib.hid hK
    have HDZ := Lib.hid (show w.heap.size + 5 ≤ D' by have := HZ.out; omega)
    clear hU hK hcn hD c0 c1 c2 hw5
    gi_wp2
    refine ⟨by simp, .inl ⟨_, _, rfl, run_takeDeferred ((setCell_block (by have := HDZ.out; simp; omega)).trans ((setCell_block (by have := HDZ.out; simp; omega)).trans HK.out)), ?_⟩⟩
    have hf := ((HU.out.flow 0).is false).put (l := D') (.deferred none) HDZ.out
    have k0 := hf.r.c
    have k1 := hf.i.c
    refine ⟨.tuple #[.int .i64 0, .bool false], by simp [results, Try.f75, go_sem, k0, k1], by rw [HFD.out]; rfl, hf.b⟩
  case stop =>
    rintro D' c' pre W hD hSp ⟨rfl, l, v, rfl, hcn, hU⟩ hK
    obtain ⟨hfs, hl40⟩ := from_stop hSp hcn
    rw [wlen_eq _ (by simp; omega)] at hU
    have HFS := Lib.hid hfs
    have gr := hU.r.c
    have fr := hU.r.fz
    have gi := hU.i.c
    have fi := hU.i.fz
    have HU := Lib.hid hU; have HK := Lib.hid hK
    have HDZ := Lib.hid (show w.heap.size + 5 ≤ D' by have := HZ.out; omega)
    clear hU hK hcn hD c0 c1 c2 hw5 hfs hl40 hSp
    gi_wp2
    refine ⟨by simp, .inl ⟨_, _, rfl, run_takeDeferred HK.out, ?_⟩⟩
    have hf := HU.out.put (l := D') (.deferred none) HDZ.out
    have k0 := hf.r.c
    have k1 := hf.i.c
    refine ⟨.tuple #[.int .i64 ((l ++ [A]).length : Int), .bool true], by simp [results, Try.f75, go_sem, k0, k1], by rw [HFS.out]; simp [onI], hf.b⟩
end Go.Proofs.Ythbicbmlbblflaa
