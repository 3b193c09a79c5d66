/- What a step does to the evaluator's memory and the world's, and the operations that make a block. -/
import Derived.Test.YtegkgfiaegpihaaE6
import Derived.Laws.NewFold
import Derived.Laws.BitsLemmas
set_option linter.unusedSimpArgs false
set_option linter.unusedVariables false
namespace Go.Proofs.Ytegkgfiaegpihaa
open Go

def Nm.add (ι : Nm) (b : Nat) (c : Blk) : Nm := fun k => if k = b then some c else ι k
theorem Nm.add_same (ι : Nm) (b : Nat) (c : Blk) : ι.add b c b = some c := if_pos rfl
theorem Nm.add_other {ι : Nm} {b k : Nat} (c : Blk) (h : k ≠ b) : ι.add b c k = ι k := if_neg h
theorem Nm.le_add {ι : Nm} {b : Nat} (c : Blk) (h : ι b = none) : Nm.le ι (ι.add b c) := fun k d hk => by
  by_cases e : k = b
  · subst e; rw [h] at hk; cases hk
  · rw [Nm.add_other c e]; exact hk
structure Out (P : Program) (ι : Nm) (h : AH) (w : World) (κ : Nm) (h' : AH) (w' : World) : Prop where
  evo : Evo ι h.objs.get w κ h'.objs.get w'
  hrel : HRel P κ h'.objs.get w'
  nok : NOk κ h'.next w'
  next : h.next ≤ h'.next
  same : ∀ k, k < h.next → κ k = ι k
  keep : ∀ b, b < h.next → h.objs.get b = none → h'.objs.get b = none
  stay : ∀ b, h.objs.get b ≠ none → h'.objs.get b ≠ none
section
variable {P : Program} {ι κ μ : Nm} {w w' w'' : World} {h h' h'' : AH}

theorem Out.refl (hh : HRel P ι h.objs.get w) (hn : NOk ι h.next w) : Out P ι h w ι h w := ⟨Evo.refl _ _ _, hh, hn, Nat.le_refl _, fun _ _ => rfl, fun _ _ h => h, fun _ h => h⟩
theorem Out.trans (a : Out P ι h w κ h' w') (b : Out P κ h' w' μ h'' w'') : Out P ι h w μ h'' w'' :=
  ⟨a.evo.trans b.evo, b.hrel, b.nok, Nat.le_trans a.next b.next, fun k hk => (b.same k (Nat.lt_of_lt_of_le hk a.next)).trans (a.same k hk), fun k hk e => b.keep k (Nat.lt_of_lt_of_le hk a.next) (a.keep k hk e), fun k e => b.stay k (a.stay k e)⟩
theorem Out.le (a : Out P ι h w κ h' w') : Nm.le ι κ := a.evo.le
theorem Evo.drew {g : Nat → Option AObj} : Evo ι g w ι g w.drew := ⟨Nm.le_refl _, Nat.le_refl _, fun _ _ _ => rfl, fun b o c h1 h2 h3 _ => ⟨b, o, c, h1, ⟨h2, id⟩, h3, rfl⟩, rfl, rfl, rfl⟩
theorem NOk.drew {n : Nat} (hn : NOk ι n w) : NOk ι n w.drew := hn
theorem Out.drew (hh : HRel P ι h.objs.get w) (hn : NOk ι h.next w) : Out P ι h w ι h w.drew := ⟨Evo.drew, hh.drew, hn.drew, Nat.le_refl _, fun _ _ => rfl, fun _ _ h => h, fun _ h => h⟩
theorem HRel.lt {g : Nat → Option AObj} (hh : HRel P ι g w) {b : Nat} {o : AObj} {c : Blk} (h1 : g b = some o) (h2 : Live o) (h3 : ι b = some c) : c.id < w.heap.size := by
  obtain ⟨d, C, e1, e2, _⟩ := hh.obj b o h1 h2
  rw [h3] at e1; cases e1
  exact (Array.getElem?_eq_some_iff.1 e2).1
theorem heap_alloc_old (C : Obj) {k : Nat} (hk : k < w.heap.size) : (w.alloc C).heap[k]? = w.heap[k]? := by
  simp only [World.alloc, Array.getElem?_push]
  rw [if_neg (by omega)]
theorem heap_alloc_new (C : Obj) : (w.alloc C).heap[w.heap.size]? = some C := by simp only [World.alloc, Array.getElem?_push_size]

/-- the tables after one entry was put -/
theorem get_put (h : AH) (b : Nat) (o : AObj) (k : Nat) : (h.put b o).objs.get k = if k = b then some o else h.objs.get k := Tr.get_set _ _ _ _
theorem get_new (h : AH) (o : AObj) (k : Nat) : (h.new o).objs.get k = if k = h.next then some o else h.objs.get k := Tr.get_set _ _ _ _
theorem get_put_fn (h : AH) (b : Nat) (o : AObj) : (h.put b o).objs.get = fun k => if k = b then some o else h.objs.get k := funext (get_put h b o)
theorem get_new_fn (h : AH) (o : AObj) : (h.new o).objs.get = fun k => if k = h.next then some o else h.objs.get k := funext (get_new h o)

/-- a new block under a name that was not given yet -/
theorem HRel.new {g : Nat → Option AObj} (hh : HRel P ι g w) {b cap : Nat} {o : AObj} {C : Obj} (hb : ι b = none) (ho : ORel P (ι.add b ⟨w.heap.size, cap⟩) ⟨w.heap.size, cap⟩ o C) :
    HRel P (ι.add b ⟨w.heap.size, cap⟩) (fun k => if k = b then some o else g k) (w.alloc C) := by
  have hle := Nm.le_add (⟨w.heap.size, cap⟩ : Blk) hb
  constructor
  · intro b' o' h1 h2
    by_cases e : b' = b
    · subst e
      simp only [if_true] at h1
      cases h1
      exact ⟨_, C, Nm.add_same _ _ _, heap_alloc_new C, ho⟩
    · simp only [if_neg e] at h1
      obtain ⟨c, C', e1, e2, e3⟩ := hh.obj b' o' h1 h2
      refine ⟨c, C', hle _ _ e1, ?_, e3.mono hle⟩
      rw [heap_alloc_old C (Array.getElem?_eq_some_iff.1 e2).1, e2]
  · intro b1 b2 o1 o2 c1 c2 h1 h2 h3 h4 h5 h6 h7
    by_cases e1 : b1 = b
    · by_cases e2 : b2 = b
      · rw [e1, e2]
      · subst e1
        simp only [if_neg e2] at h3
        rw [Nm.add_same] at h5; cases h5
        rw [Nm.add_other _ e2] at h6
        have := hh.lt h3 h4 h6
        simp at h7; omega
    · simp only [if_neg e1] at h1
      rw [Nm.add_other _ e1] at h5
      by_cases e2 : b2 = b
      · subst e2
        rw [Nm.add_same] at h6; cases h6
        have := hh.lt h1 h2 h5
        simp at h7; omega
      · simp only [if_neg e2] at h3
        rw [Nm.add_other _ e2] at h6
        exact hh.inj _ _ _ _ _ _ h1 h2 h3 h4 h5 h6 h7
theorem Evo.new {g : Nat → Option AObj} {b cap : Nat} {o : AObj} {C : Obj} (hb : ι b = none) :
    Evo ι g w (ι.add b ⟨w.heap.size, cap⟩) (fun k => if k = b then some o else g k) (w.alloc C) := by
  refine ⟨Nm.le_add _ hb, by simp, fun k hk _ => heap_alloc_old C hk, ?_, rfl, rfl, rfl⟩
  intro b' o' c h1 h2 h3 h4
  by_cases e : b' = b
  · subst e; rw [Nm.add_same] at h3; cases h3; simp at h4
  · simp only [if_neg e] at h1
    rw [Nm.add_other _ e] at h3
    exact ⟨b', o', c, h1, ⟨h2, id⟩, h3, rfl⟩
theorem Out.new (hh : HRel P ι h.objs.get w) (hn : NOk ι h.next w) {cap : Nat} {o : AObj} {C : Obj} (ho : ORel P (ι.add h.next ⟨w.heap.size, cap⟩) ⟨w.heap.size, cap⟩ o C) :
    Out P ι h w (ι.add h.next ⟨w.heap.size, cap⟩) (h.new o) (w.alloc C) := by
  have hb : ι h.next = none := by
    cases e : ι h.next with
    | none => rfl
    | some c => exact absurd (hn _ _ e).1 (Nat.lt_irrefl _)
  refine ⟨by rw [get_new_fn]; exact Evo.new hb, by rw [get_new_fn]; exact hh.new hb ho, ?_, Nat.le_succ _, fun k hk => Nm.add_other _ (by omega), fun k hk e => by rw [get_new, if_neg (by omega)]; exact e, fun k e => by rw [get_new]; split <;> simp_all⟩
  intro k c hk
  show k < h.next + 1 ∧ c.id < (w.alloc C).heap.size
  by_cases e : k = h.next
  · subst e; rw [Nm.add_same] at hk; cases hk; simp
  · rw [Nm.add_other _ e] at hk
    have := hn _ _ hk
    simp; omega

/-! makers -/
theorem orel_new {cs : List AV} {vs : List Value} {e : TypeId} {s : Nat} {k : Blk} (r : LRel κ cs vs) (hs : sizeB P e = some s) (hl : vs.length = k.cap * s) :
    ORel P κ k (.cells cs e) (.cells ⟨vs⟩ e (0, 0)) := ⟨rfl, rfl, ⟨vs, [], by simp, r⟩, s, hs, by simpa using hl⟩
theorem range_cyc (z : List Value) (n : Nat) : ((List.range (n * z.length)).map fun i => z.toArray[i % z.toArray.size]!) = (List.replicate n z).flatten := by
  induction n with
  | zero => simp
  | succ n ih =>
    rw [Nat.succ_mul, Nat.add_comm, List.range_add, List.map_append, List.replicate_succ, List.flatten_cons, ← ih, List.map_map]
    congr 1
    · apply List.ext_getElem
      · simp
      · intro i h1 h2
        simp only [List.length_map, List.length_range] at h1
        simp [Nat.mod_eq_of_lt h2]
        rw [List.getElem?_eq_getElem h2]; rfl
    · apply List.map_congr_left
      intro i _
      simp
theorem array_cyc (z : Array Value) (n : Nat) : ((Array.range (n * z.size)).map fun i => z[i % z.size]!) = ⟨(List.replicate n z.toList).flatten⟩ := by
  apply Array.ext'
  rw [Array.toList_map, Array.toList_range]
  have := range_cyc z.toList n
  simpa using this
theorem fitA_ok {e : TypeId} {cs : List AV} (e1 : fitA P e cs = true) : sizeB P e = some cs.length := by
  unfold fitA at e1
  cases h : sizeB P e with
  | none => rw [h] at e1; cases e1
  | some n => rw [h] at e1; rw [← beq_eq e1, lenL_eq]
theorem allocA_ok {b : Nat} {e : TypeId} {v : AV} {o : AObj} (e1 : allocA P b e = some (v, o)) :
    ∃ C, (Instr.alloc e true (.tuple #[])).run P w = .ok (.pointer (some ⟨w.heap.size, 0, none⟩)) (w.alloc C) ∧ VRel (ι.add b ⟨w.heap.size, 1⟩) v (.pointer (some ⟨w.heap.size, 0, none⟩)) ∧ ORel P (ι.add b ⟨w.heap.size, 1⟩) ⟨w.heap.size, 1⟩ o C ∧ Live o := by
  obtain ⟨z, e2, e3⟩ := ob_eq.1 e1
  obtain ⟨e4, e5⟩ := cnd_eq.1 e3
  cases e5
  have hr : LRel (ι.add b ⟨w.heap.size, 1⟩) (valCells z) z.cells.toList := valCells_rel z
  refine ⟨.cells ⟨z.cells.toList⟩ e (0, 0), ?_, .ptr _ _ _ (Nm.add_same _ _ _), orel_new hr (fitA_ok e4) (by rw [hr.length]; simp), trivial⟩
  simp [Instr.alloc, run_zero e2, newVar, newRow]
theorem boxA_ok {b : Nat} {e : TypeId} {x v : AV} {x' : Value} {o : AObj} (e1 : boxA P b e x = some (v, o)) (hb : ι b = none) (r : VRel ι x x') :
    ∃ C, (Instr.box e x').run P w = .ok (.pointer (some ⟨w.heap.size, 0, none⟩)) (w.alloc C) ∧ VRel (ι.add b ⟨w.heap.size, 1⟩) v (.pointer (some ⟨w.heap.size, 0, none⟩)) ∧ ORel P (ι.add b ⟨w.heap.size, 1⟩) ⟨w.heap.size, 1⟩ o C ∧ Live o := by
  obtain ⟨e4, e5⟩ := cnd_eq.1 e1
  cases e5
  have hr : LRel (ι.add b ⟨w.heap.size, 1⟩) x.cells x'.cells.toList := (r.mono (Nm.le_add _ hb)).cells
  refine ⟨.cells ⟨x'.cells.toList⟩ e (0, 0), ?_, .ptr _ _ _ (Nm.add_same _ _ _), orel_new hr (fitA_ok e4) (by rw [hr.length]; simp), trivial⟩
  simp [Instr.box, newVar, newRow]
theorem PRel.mono (hle : Nm.le ι κ) {l : List (Nat × AV)} {m : List (Nat × Value)} (r : PRel ι l m) : PRel κ l m := by
  induction r with
  | nil => exact .nil
  | cons i a v l m h1 _ ih => exact .cons i a v l m (h1.mono hle) ih
theorem buildSliceA_ok {b : Nat} {t : TypeId} {len : Nat} {parts : List (Nat × AV)} {parts' : List (Nat × Value)} {v : AV} {o : AObj} (e1 : buildSliceA P b t len parts = some (v, o)) (hb : ι b = none) (r : PRel ι parts parts') :
    ∃ v' C, (Instr.buildSlice t len ⟨parts'⟩).run P w = .ok v' (w.alloc C) ∧ VRel (ι.add b ⟨w.heap.size, len⟩) v v' ∧ ORel P (ι.add b ⟨w.heap.size, len⟩) ⟨w.heap.size, len⟩ o C ∧ Live o := by
  obtain ⟨el, e2, e3⟩ := ob_eq.1 e1
  obtain ⟨n, e4, e5⟩ := ob_eq.1 e3
  rcases cnd_of e5 with ⟨_, e6⟩ | ⟨e6, e7⟩
  · cases e6
  obtain ⟨e8, e9⟩ := cnd_eq.1 e7
  obtain ⟨z, e10, e11⟩ := ob_eq.1 e9
  obtain ⟨e12, e13⟩ := cnd_eq.1 e11
  obtain ⟨rs, e14, e15⟩ := ob_eq.1 e13
  cases e15
  have hle := Nm.le_add (⟨w.heap.size, len⟩ : Blk) hb
  have hz : LRel (ι.add b ⟨w.heap.size, len⟩) (valCells z) z.cells.toList := valCells_rel z
  have hzn : z.cells.size = n := by
    have := beq_eq e12
    rw [lenL_eq, hz.length] at this
    simpa using this
  obtain ⟨r', f1, f2, f3⟩ := fillA_ok (pl' := fun i => some (i * n, n)) (fun i q h => h) e14 (r.mono hle) (repeatA_rel hz len)
  have hlen : ((List.replicate len z.cells.toList).flatten).length = len * n := by simp [hzn]
  have hn : n ≠ 0 := by rintro rfl; cases e6
  refine ⟨.slice (some ⟨w.heap.size, 0, none⟩) len len, .cells ⟨r'⟩ el (0, 0), ?_, .sl _ _ _ _ _ _ _ (Nm.add_same _ _ _) (fun _ => rfl) (Nat.le_refl _) (fun h => by cases h), orel_new f2 e4 (by rw [f3, hlen]), trivial⟩
  have hsz : ¬ (len * n > 2 ^ 24) := by
    have := ble_le e8
    simp at this
    omega
  have hcyc := array_cyc z.cells len
  rw [hzn] at hcyc
  simp only [Instr.buildSlice, Sem.run_bind, run_und (sliceElem_eq e2), Result.andThen_ok, run_size e4, if_neg hsz, Sem.run_pure]
  by_cases h0 : len * n = 0
  · have hl0 : len = 0 := by rcases Nat.mul_eq_zero.1 h0 with h | h; exact h; exact absurd h hn
    subst hl0
    simp only [List.replicate_zero, List.flatten_nil] at f1
    have f1' : Instr.fill (fun i => some (i * n, n)) ((Array.range 0).map fun i => (#[] : Array Value)[i % (#[] : Array Value).size]!) parts' = some ⟨r'⟩ := by rw [show ((Array.range 0).map fun i => (#[] : Array Value)[i % (#[] : Array Value).size]!) = ⟨[]⟩ from by apply Array.ext'; simp]; exact f1
    rw [if_pos h0]
    simp only [Sem.run_pure, Result.andThen_ok, Nat.zero_mul, f1', Sem.run_bind, newRow, run_newObj_alloc]
  · rw [if_neg h0]
    simp only [Sem.run_bind, run_zero e10, Result.andThen_ok, Sem.run_pure, hzn, hcyc, f1, newRow, run_newObj_alloc]
theorem makeSliceA_ok {b : Nat} {t : TypeId} {l c v : AV} {l' c' : Value} {o : AObj} (e1 : makeSliceA P b t l c = some (v, o)) (rl : VRel ι l l') (rc : VRel ι c c') :
    ∃ v' C cap, (Instr.makeSlice t l' c').run P w = .ok v' (w.alloc C) ∧ VRel (ι.add b ⟨w.heap.size, cap⟩) v v' ∧ ORel P (ι.add b ⟨w.heap.size, cap⟩) ⟨w.heap.size, cap⟩ o C ∧ Live o := by
  obtain ⟨ln, e2, e3⟩ := ob_eq.1 e1
  obtain ⟨cn, e4, e5⟩ := ob_eq.1 e3
  obtain ⟨el, e6, e7⟩ := ob_eq.1 e5
  obtain ⟨i, e8, e9⟩ := ob_eq.1 e7
  obtain ⟨z, e10, e11⟩ := ob_eq.1 e9
  obtain ⟨e12, e13⟩ := cnd_eq.1 e11
  obtain ⟨e14, e15⟩ := cnd_eq.1 e13
  obtain ⟨e16, e17⟩ := cnd_eq.1 e15
  obtain ⟨e18, e19⟩ := cnd_eq.1 e17
  cases e19
  obtain ⟨k1, rfl⟩ := rl.natOf e2
  obtain ⟨k2, rfl⟩ := rc.natOf e4
  have h12 := ble_le e12; have h14 := ble_le e14; have h16 := ble_le e16
  have hz : LRel (ι.add b ⟨w.heap.size, cn⟩) (valCells z) z.cells.toList := valCells_rel z
  have hzn : z.cells.size = i.size := by
    have := beq_eq e18
    rw [lenL_eq, hz.length] at this
    simpa using this
  have hs : sizeB P el = some i.size := by simp [sizeB, ob, e8]
  have hzero : zeroB P el = some z := by simp [zeroB, ob, e8, e10]
  have hr := repeatA_rel hz cn
  have hlen : ((List.replicate cn z.cells.toList).flatten).length = cn * i.size := by simp [hzn]
  refine ⟨.slice (some ⟨w.heap.size, 0, none⟩) ln cn, .cells ⟨(List.replicate cn z.cells.toList).flatten⟩ el (0, 0), cn, ?_, .sl _ _ _ _ _ _ _ (Nm.add_same _ _ _) (fun _ => rfl) (Nat.le_refl _) (fun h => by cases h), orel_new hr hs hlen, trivial⟩
  have hcyc := array_cyc z.cells cn
  rw [hzn] at hcyc
  have w1 : IntKind.i64.wrap (ln : Int) = ln := by rw [IntKind.wrap_i64]; omega
  have w2 : IntKind.i64.wrap (cn : Int) = cn := by rw [IntKind.wrap_i64]; omega
  have hbytes : i.bytes * cn ≤ 16777216 := Nat.le_trans (Nat.mul_le_mul h16 h14) (by decide)
  have hb1 : ¬ ((i.bytes : Int) * (cn : Int) > 2 ^ 48) := by
    have h2 : (i.bytes : Int) * (cn : Int) ≤ 16777216 := by rw [← Int.natCast_mul]; exact Int.ofNat_le.2 hbytes
    omega
  have hc1 : ¬ ((cn : Int) < 0) := by omega
  have hl1 : ¬ ((ln : Int) < 0) := by omega
  have hl2 : ¬ ((ln : Int) > (cn : Int)) := by omega
  have hb2 : ¬ (281474976710656 < (i.bytes : Int) * (cn : Int)) := by simpa using hb1
  simp only [Instr.makeSlice, Sem.run_bind, run_und (sliceElem_eq e6), Result.andThen_ok, asInt, asIntOf_run, Sem.run_pure, run_info e8, w1, w2]
  simp only [hb1, hc1, hl1, hl2, decide_false, Bool.or_false, Bool.false_or, Bool.false_eq_true, or_self, if_false, Sem.run_bind, Result.andThen_ok, run_askRoom, Int.toNat_natCast, run_size hs]
  by_cases h0 : cn * i.size = 0
  · rw [if_pos h0]
    have : (List.replicate cn z.cells.toList).flatten = [] := by apply List.eq_nil_of_length_eq_zero; rw [hlen, h0]
    rw [this]
    have hx : ((Array.range 0).map fun i => (#[] : Array Value)[i % (#[] : Array Value).size]!) = ⟨[]⟩ := by apply Array.ext'; simp
    simp only [h0, Sem.run_pure, Result.andThen_ok, hx, Sem.run_bind, newRow, run_newObj_alloc]
  · rw [if_neg h0]
    simp only [Sem.run_bind, run_zero hzero, Result.andThen_ok, Sem.run_pure, hzn, hcyc, newRow, run_newObj_alloc]
theorem makerOp_ok {ρ : Operand → AV} {ρ' : Operand → Value} {b : Nat} {o : Oper} {v : AV} {ob' : AObj} (e : makerOp P ρ b o.op = some (v, ob')) (hb : ι b = none) (hr : ∀ x ∈ o.op.operands, VRel ι (ρ x) (ρ' x)) :
    ∃ v' C cap, (execOp ρ' o).run P w = .ok (.value v') (w.alloc C) ∧ VRel (ι.add b ⟨w.heap.size, cap⟩) v v' ∧ ORel P (ι.add b ⟨w.heap.size, cap⟩) ⟨w.heap.size, cap⟩ ob' C ∧ Live ob' := by
  cases ho : o.op <;> rw [ho] at e hr <;> simp only [makerOp] at e <;> first | cases e | skip
  case alloc el =>
    obtain ⟨C, h1, h2, h3, h4⟩ := allocA_ok (w := w) (ι := ι) e
    exact ⟨_, C, 1, by simp only [execOp, ho, Sem.run_bind, h1, Result.andThen_ok, Sem.run_pure], h2, h3, h4⟩
  case box el x =>
    obtain ⟨C, h1, h2, h3, h4⟩ := boxA_ok (w := w) e hb (hr x (by simp [Op.operands]))
    exact ⟨_, C, 1, by simp only [execOp, ho, Sem.run_bind, h1, Result.andThen_ok, Sem.run_pure], h2, h3, h4⟩
  case buildSlice t len parts =>
    have hp : PRel ι (mapParts ρ parts.toList) (parts.map fun (i, x) => (i, ρ' x)).toList := by
      rw [Array.toList_map]
      exact mapParts_rel fun x hx => hr x.2 (by simp [Op.operands]; exact ⟨x.1, by simpa using hx⟩)
    obtain ⟨v', C, h1, h2, h3, h4⟩ := buildSliceA_ok (w := w) e hb hp
    have h1' : (Instr.buildSlice t len (parts.map fun (i, x) => (i, ρ' x))).run P w = .ok v' (w.alloc C) := h1
    exact ⟨v', C, len, by simp only [execOp, ho, Sem.run_bind, h1', Result.andThen_ok, Sem.run_pure], h2, h3, h4⟩
  case makeSlice t l c =>
    obtain ⟨v', C, cap, h1, h2, h3, h4⟩ := makeSliceA_ok (w := w) (ι := ι) e (hr l (by simp [Op.operands])) (hr c (by simp [Op.operands]))
    exact ⟨v', C, cap, by simp only [execOp, ho, Sem.run_bind, h1, Result.andThen_ok, Sem.run_pure], h2, h3, h4⟩
  case makeMap t r =>
    cases r with
    | none =>
      cases (show some (AV.mp b, AObj.map [] 0) = some (v, ob') from e)
      refine ⟨.map (some w.heap.size), .map #[] 0, 0, ?_, .mp _ _ (Nm.add_same _ _ _), ⟨rfl, rfl⟩, trivial⟩
      simp [execOp, ho, Instr.makeMap]
    | some x => cases e
end
end Go.Proofs.Ytegkgfiaegpihaa
