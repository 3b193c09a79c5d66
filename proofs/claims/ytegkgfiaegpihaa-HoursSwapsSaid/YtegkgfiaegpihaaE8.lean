/- The operations that write or call: what the evaluator says of them is so. -/
import Derived.Test.YtegkgfiaegpihaaE7
import Derived.Laws.AppendOwn
set_option linter.unusedSimpArgs false
set_option linter.unusedVariables false
namespace Go.Proofs.Ytegkgfiaegpihaa
open Go

section
variable {P : Program} {ι κ μ : Nm} {w w' w'' : World} {h h' h'' : AH}

/-- a row of cells written anew -/
theorem HRel.put {g : Nat → Option AObj} (hh : HRel P ι g w) {b : Nat} {c : Blk} {cs r : List AV} {vs vs' rest : List Value} {e : TypeId} {s : Nat}
    (h1 : g b = some (.cells cs e)) (h2 : ι b = some c) (h3 : w.heap[c.id]? = some (.cells ⟨vs ++ rest⟩ e (0, 0))) (h4 : LRel ι r vs') (h5 : vs'.length = vs.length)
    (h6 : sizeB P e = some s) (h7 : vs.length + rest.length = c.cap * s) :
    HRel P ι (fun k => if k = b then some (.cells r e) else g k) (w.setRow c.id ⟨vs' ++ rest⟩) := by
  constructor
  · intro b' o' k1 k2
    by_cases eb : b' = b
    · subst eb
      simp only [if_true] at k1
      cases k1
      exact ⟨c, _, h2, setRow_heap w c.id _ _ e (0, 0) h3, rfl, rfl, ⟨vs', rest, rfl, h4⟩, s, h6, by simp [h5, h7]⟩
    · simp only [if_neg eb] at k1
      obtain ⟨c', C', e1, e2, e3⟩ := hh.obj b' o' k1 k2
      refine ⟨c', C', e1, ?_, e3⟩
      rw [setRow_other w c.id c'.id _ (fun hid => eb (hh.inj _ _ _ _ _ _ k1 k2 h1 trivial e1 h2 hid)), e2]
  · intro b1 b2 o1 o2 c1 c2 k1 k2 k3 k4 k5 k6 k7
    have conv : ∀ {x : Nat} {o : AObj}, (if x = b then some (AObj.cells r e) else g x) = some o → Live o → ∃ o', g x = some o' ∧ Live o' := by
      intro x o hx ho
      by_cases ex : x = b
      · subst ex; exact ⟨_, h1, trivial⟩
      · rw [if_neg ex] at hx; exact ⟨o, hx, ho⟩
    obtain ⟨o1', m1, m2⟩ := conv k1 k2
    obtain ⟨o2', m3, m4⟩ := conv k3 k4
    exact hh.inj _ _ _ _ _ _ m1 m2 m3 m4 k5 k6 k7
theorem Out.put (hh : HRel P ι h.objs.get w) (hn : NOk ι h.next w) {b : Nat} {c : Blk} {cs r : List AV} {vs vs' rest : List Value} {e : TypeId} {s : Nat}
    (h1 : h.objs.get b = some (.cells cs e)) (h2 : ι b = some c) (h3 : w.heap[c.id]? = some (.cells ⟨vs ++ rest⟩ e (0, 0))) (h4 : LRel ι r vs') (h5 : vs'.length = vs.length)
    (h6 : sizeB P e = some s) (h7 : vs.length + rest.length = c.cap * s) :
    Out P ι h w ι (h.put b (.cells r e)) (w.setRow c.id ⟨vs' ++ rest⟩) := by
  refine ⟨?_, by rw [get_put_fn]; exact hh.put h1 h2 h3 h4 h5 h6 h7, fun k d hk => ⟨(hn k d hk).1, by simpa using (hn k d hk).2⟩, Nat.le_refl _, fun _ _ => rfl, fun k hk e => by rw [get_put]; split <;> simp_all, fun k e => by rw [get_put]; split <;> simp_all⟩
  rw [get_put_fn]
  refine ⟨Nm.le_refl _, by simp, fun k hk hno => setRow_other w c.id k _ (fun hid => hno b _ c h1 trivial h2 hid.symm), ?_, rfl, rfl, rfl⟩
  intro b' o' c' k1 k2 k3 _
  by_cases eb : b' = b
  · subst eb; rw [h2] at k3; cases k3; exact ⟨_, _, _, h1, ⟨trivial, fun _ => trivial⟩, h2, rfl⟩
  · simp only [if_neg eb] at k1; exact ⟨_, _, _, k1, ⟨k2, id⟩, k3, rfl⟩

theorem run_storeRow {id o : Nat} {vs us rest : List Value} {e : TypeId} (h3 : w.heap[id]? = some (.cells ⟨vs ++ rest⟩ e (0, 0))) (hl : o + us.length ≤ vs.length) (h1 : ∀ v ∈ us, v.oneCell' = true) :
    (storeCells ⟨id, o, none⟩ us).run P w = .ok () (w.setRow id ⟨(vs.take o ++ us ++ vs.drop (o + us.length)) ++ rest⟩) := by
  rw [run_storeCells_at P id o e us 0 ⟨vs ++ rest⟩ w h3 (by simp; omega) h1]
  congr 2
  simp [List.take_append_of_le_length (show o ≤ vs.length by omega), List.drop_append_of_le_length hl, List.append_assoc]

theorem storeA_ok {t : TypeId} {a v : AV} {a' v' : Value} (e : storeA P h t v a = some h') (hh : HRel P ι h.objs.get w) (hn : NOk ι h.next w) (ra : VRel ι a a') (rv : VRel ι v v') :
    ∃ w', (Instr.storeAt t a' v').run P w = .ok () w' ∧ Out P ι h w ι h' w' := by
  cases a <;> simp only [storeA] at e <;> first | cases e | skip
  rename_i b o
  obtain ⟨⟨cs, el⟩, e1, e2⟩ := ob_eq.1 e
  obtain ⟨n, e3, e4⟩ := ob_eq.1 e2
  obtain ⟨e5, e6⟩ := cnd_eq.1 e4
  obtain ⟨e7, e8⟩ := cnd_eq.1 e6
  obtain ⟨r, e9, e10⟩ := ob_eq.1 e8
  cases e10
  have hg := cells?_eq e1
  obtain ⟨c, vs, rest, s, g1, g2, g3, g4, g5⟩ := hh.cells hg
  have rc := rv.cells
  have hlen : v'.cells.size = n := by
    have := beq_eq e5
    rw [lenL_eq, rc.length] at this
    simpa using this
  cases ra with
  | ptr _ _ c' hc =>
    rw [g1] at hc; cases hc
    obtain ⟨k1, k2⟩ := g3.layAt rc e9
    refine ⟨_, ?_, Out.put hh hn hg g1 g2 k2 (by simp at k1 ⊢; omega) g4 g5⟩
    simp only [Instr.storeAt, Instr.sureAddr, Sem.run_bind, Sem.run_pure, Result.andThen_ok, storeVar, run_size e3, hlen, ne_eq, not_true, if_false]
    exact run_storeRow g2 k1 (rc.allOne e7)

/-! append and copy -/
/-- what is put behind -/
theorem srcA_ok {size n : Nat} {x : AV} {x' : Value} {l : List AV} (e : srcA h size x = some (n, l)) (hh : HRel P ι h.objs.get w) (r : VRel ι x x') :
    ∃ ls, LRel ι l ls ∧ ls.length = n * size ∧ (Builtin.lenOf x').run P w = .ok n w ∧ ∀ u : World, u.heap = w.heap → (Builtin.firstCells size n x').run P u = .ok ⟨ls⟩ u := by
  unfold srcA at e
  split at e
  · rename_i b o n' m ex
    obtain ⟨⟨cs, el⟩, e1, e2⟩ := ob_eq.1 e
    obtain ⟨q, e3, e4⟩ := ob_eq.1 e2
    cases e4
    obtain ⟨c, vs, rest, s, g1, g2, g3, g4, g5⟩ := hh.cells (cells?_eq e1)
    obtain ⟨k1, k2⟩ := g3.takeAt e3
    cases r with
    | sl _ _ _ _ _ c' k hc _ _ _ =>
      rw [g1] at hc; cases hc
      have hlen : ((vs.drop o).take (Nat.mul n size)).length = n * size := by
        have k0 : n * size = 0 ∨ o + n * size ≤ vs.length := k1
        show ((vs.drop o).take (n * size)).length = n * size
        rw [List.length_take, List.length_drop]
        omega
      refine ⟨_, k2, hlen, rfl, fun u hu => ?_⟩
      have h2 : u.heap[c.id]? = some (.cells ⟨vs ++ rest⟩ el (0, 0)) := by rw [hu]; exact g2
      refine run_firstCells_some u size n ⟨c.id, o, none⟩ n k _ hlen fun j v hj => ?_
      rw [addr_add]
      rw [List.getElem?_take] at hj
      split at hj
      · rw [List.getElem?_drop] at hj
        have hlt := (List.getElem?_eq_some_iff.1 hj).1
        simp [World.cell?, h2, List.getElem?_append_left hlt, hj]
      · cases hj
  · obtain ⟨e1, e2⟩ := cnd_eq.1 e
    cases e2
    cases r
    obtain rfl := beq_eq e1
    exact ⟨[], .nil, by simp, rfl, fun u _ => run_firstCells_none u size 0 0 _⟩
  · rename_i s
    obtain ⟨e1, e2⟩ := cnd_eq.1 e
    cases e2
    cases r
    obtain rfl := beq_eq e1
    have hx : (Array.map (fun b : UInt8 => Value.int IntKind.u8 (b.toNat : Int)) s.data).extract 0 s.size = Array.map (fun b : UInt8 => Value.int IntKind.u8 (b.toNat : Int)) s.data := by
      have hs : s.size = (Array.map (fun b : UInt8 => Value.int IntKind.u8 (b.toNat : Int)) s.data).size := by rw [Array.size_map]; rfl
      rw [hs, Array.extract_size]
    refine ⟨_, LRel.flats _, by simp, rfl, fun u _ => ?_⟩
    have h2 : (s.extract 0 s.size) = s := by simp
    simp [Builtin.firstCells, h2]
    apply Array.ext'; simp
  · cases e

/-- an append that fits -/
theorem run_append_fits {t u ty e : TypeId} {d : TypeDesc} {s n : Nat} {base : Option Addr} {l k : Nat} {x' : Value} {ls : List Value}
    (ht : P.underlying t = some (.slice e)) (hu : P.underlying u = some d) (hd : slStr d = true) (hs : sizeB P e = some s)
    (hlen : (Builtin.lenOf x').run P w = .ok n w) (hfc : (Builtin.firstCells s n x').run P w = .ok ⟨ls⟩ w) (hfit : l + n ≤ k) :
    (Builtin.append_ #[t, u] ty #[.slice base l k, x']).run P w =
      (((match base with | some a => storeCells (a.add (l * s)) ls | none => pure ()) : Sem Unit).run P w).andThen fun _ w' => .ok (.slice base (l + n) k) w' := by
  cases d <;> first | (cases hd; done) | skip
  · simp only [Builtin.append_, List.getElem?_toArray, List.getElem?_cons_zero, List.getElem?_cons_succ, Sem.run_bind, run_und ht, run_und hu, Result.andThen_ok, run_size hs, Sem.run_pure, Bool.false_eq_true, if_false, hlen, hfit, if_true, Bool.not_false, hfc]
    cases base <;> simp
  · simp only [Builtin.append_, List.getElem?_toArray, List.getElem?_cons_zero, List.getElem?_cons_succ, Sem.run_bind, run_und ht, run_und hu, Result.andThen_ok, run_size hs, Sem.run_pure, Bool.false_eq_true, if_false, hlen, hfit, if_true, Bool.not_false, hfc]
    cases base <;> simp
/-- an append that does not fit -/
theorem run_append_more {t u ty e : TypeId} {d : TypeDesc} {i : TypeInfo} {z : Value} {n : Nat} {base : Option Addr} {l k : Nat} {x' : Value} {os ls : List Value}
    (ht : P.underlying t = some (.slice e)) (hu : P.underlying u = some d) (hd : slStr d = true) (hi : P.info? e = some i) (hz : i.zero = some z) (hb : i.bytes ≠ 0) (hb2 : i.bytes ≤ 4096)
    (hlen : (Builtin.lenOf x').run P w = .ok n w) (hfc : (Builtin.firstCells i.size n x').run P w.drew = .ok ⟨ls⟩ w.drew) (hold : (Builtin.firstCells i.size l (.slice base l k)).run P w.drew = .ok ⟨os⟩ w.drew) (hfit : k < l + n) (hsm : l + n ≤ 300000) :
    (Builtin.append_ #[t, u] ty #[.slice base l k, x']).run P w =
      .ok (.slice (some ⟨w.heap.size, 0, none⟩) (l + n) (grownCap w (l + n) k e)) (w.drew.alloc (.cells ⟨os ++ ls ++ (Builtin.zeroCells z.cells (grownCap w (l + n) k e - (l + n))).toList⟩ e)) := by
  have hn : ¬ (l + n ≤ k) := by omega
  have hbb : (l + n) * i.bytes ≤ 140737488355328 := Nat.le_trans (Nat.mul_le_mul hsm hb2) (by decide)
  have h48 : ¬ (Builtin.nextslicecap (l + n) k * i.bytes > 2 ^ 48) := by have := growslice_fits hfit hbb; simp; omega
  have hs : sizeB P e = some i.size := by simp [sizeB, ob, hi]
  have h63' : ¬ (((l + n : Nat) : Int) > IntKind.i64.max) := by
    have : IntKind.i64.max = 9223372036854775807 := rfl
    rw [this]; omega
  have hzr := fun u => run_zero (w := u) (show zeroB P e = some z by simp [zeroB, ob, hi, hz])
  have hq : (Question.appendCap (l + n) k e).forced = false := rfl
  cases d <;> first | (cases hd; done) | skip
  all_goals
    simp only [Builtin.append_, List.getElem?_toArray, List.getElem?_cons_zero, List.getElem?_cons_succ, Sem.run_bind, run_und ht, run_und hu, Result.andThen_ok, run_size hs, Sem.run_pure, Bool.false_eq_true, if_false, hlen, hn, if_true, Bool.not_false, h63', false_and, run_info hi, h48, run_choose_drew, hq, run_askRoom, hold, hfc, hzr, newRow, run_newObj_alloc, Sem.run_ite, gt_iff_lt]
    have hx : ∀ X : Array Value, ((⟨os⟩ : Array Value) ++ ⟨ls⟩ ++ X) = ⟨os ++ ls ++ X.toList⟩ := fun X => by apply Array.ext'; simp
    rw [hx]
    rfl

theorem HRel.kill {g : Nat → Option AObj} (hh : HRel P ι g w) (b : Nat) : HRel P ι (fun k => if k = b then some .dead else g k) w := by
  have conv : ∀ {x : Nat} {o : AObj}, (if x = b then some AObj.dead else g x) = some o → Live o → g x = some o := by
    intro x o hx ho
    by_cases ex : x = b
    · rw [if_pos ex] at hx; cases hx; exact ho.elim
    · rwa [if_neg ex] at hx
  exact ⟨fun b' o' k1 k2 => hh.obj b' o' (conv k1 k2) k2, fun b1 b2 o1 o2 c1 c2 k1 k2 k3 k4 => hh.inj b1 b2 o1 o2 c1 c2 (conv k1 k2) k2 (conv k3 k4) k4⟩
theorem Out.kill (hh : HRel P ι h.objs.get w) (hn : NOk ι h.next w) (b : Nat) (hb : h.objs.get b ≠ none) : Out P ι h w ι (h.put b .dead) w := by
  refine ⟨?_, by rw [get_put_fn]; exact hh.kill b, hn, Nat.le_refl _, fun _ _ => rfl, fun k hk e => by rw [get_put]; split <;> simp_all, fun k e => by rw [get_put]; split <;> simp_all⟩
  rw [get_put_fn]
  refine ⟨Nm.le_refl _, Nat.le_refl _, fun _ _ _ => rfl, ?_, rfl, rfl, rfl⟩
  intro b' o' c k1 k2 k3 _
  by_cases ex : b' = b
  · simp only [if_pos ex] at k1; cases k1; exact k2.elim
  · simp only [if_neg ex] at k1; exact ⟨_, _, _, k1, ⟨k2, id⟩, k3, rfl⟩
theorem NOk.none {n : Nat} (hn : NOk ι n w) : ι n = none := by
  cases e : ι n with
  | none => rfl
  | some c => exact absurd (hn _ _ e).1 (Nat.lt_irrefl _)
/-- a block gets a new name -/
theorem Out.move (hh : HRel P ι h.objs.get w) (hn : NOk ι h.next w) {b : Nat} {c : Blk} {cs : List AV} {e el : TypeId} {A B : Array Value} {o : AObj}
    (h1 : h.objs.get b = some (.cells cs e)) (h2 : ι b = some c) (h3 : w.heap[c.id]? = some (.cells B el (0, 0))) (h4 : ORel P (ι.add h.next c) c o (.cells A el (0, 0))) :
    Out P ι h w (ι.add h.next c) ((h.put b .dead).new o) (w.setRow c.id A) := by
  have hb := hn.none
  have hle := Nm.le_add c hb
  have hbn : b ≠ h.next := by rintro rfl; rw [hb] at h2; cases h2
  have hget : ((h.put b .dead).new o).objs.get = fun k => if k = h.next then some o else if k = b then some .dead else h.objs.get k := by
    funext k
    rw [get_new]
    show (if k = h.next then some o else (h.put b .dead).objs.get k) = _
    rw [get_put]
  have old : ∀ {k : Nat} {q : AObj}, k ≠ h.next → (if k = h.next then some o else if k = b then some AObj.dead else h.objs.get k) = some q → Live q → k ≠ b ∧ h.objs.get k = some q := by
    intro k q hk hq hl
    rw [if_neg hk] at hq
    by_cases ek : k = b
    · rw [if_pos ek] at hq; cases hq; exact hl.elim
    · rw [if_neg ek] at hq; exact ⟨ek, hq⟩
  have hkeep : ∀ k, k < h.next → h.objs.get k = none → ((h.put b .dead).new o).objs.get k = none := fun k hk e => by
    rw [hget]
    simp only
    rw [if_neg (by omega), if_neg (by rintro rfl; rw [h1] at e; cases e)]
    exact e
  have hstay : ∀ k, h.objs.get k ≠ none → ((h.put b .dead).new o).objs.get k ≠ none := fun k e => by
    rw [hget]
    simp only
    split
    · simp
    · split
      · simp
      · exact e
  refine ⟨?_, ?_, ?_, Nat.le_succ _, fun k hk => Nm.add_other _ (by omega), hkeep, hstay⟩
  · rw [hget]
    refine ⟨hle, by simp, fun k hk hno => setRow_other w c.id k _ (fun hid => hno b _ c h1 trivial h2 hid.symm), ?_, rfl, rfl, rfl⟩
    intro b' o' c' k1 k2 k3 k4
    by_cases eb : b' = h.next
    · subst eb; rw [Nm.add_same] at k3; cases k3; exact ⟨b, _, c, h1, ⟨trivial, fun _ => trivial⟩, h2, rfl⟩
    · obtain ⟨m1, m2⟩ := old eb k1 k2
      rw [Nm.add_other _ eb] at k3
      exact ⟨b', o', c', m2, ⟨k2, id⟩, k3, rfl⟩
  · rw [hget]
    constructor
    · intro b' o' k1 k2
      by_cases eb : b' = h.next
      · subst eb
        simp only [if_true] at k1
        cases k1
        exact ⟨c, _, Nm.add_same _ _ _, setRow_heap w c.id _ _ el (0, 0) h3, h4⟩
      · obtain ⟨m1, m2⟩ := old eb k1 k2
        obtain ⟨c', C', e1, e2, e3⟩ := hh.obj b' o' m2 k2
        refine ⟨c', C', hle _ _ e1, ?_, e3.mono hle⟩
        rw [setRow_other w c.id c'.id _ (fun hid => m1 (hh.inj _ _ _ _ _ _ m2 k2 h1 trivial e1 h2 hid)), e2]
    · intro b1 b2 o1 o2 c1 c2 k1 k2 k3 k4 k5 k6 k7
      by_cases e1 : b1 = h.next
      · by_cases e2 : b2 = h.next
        · rw [e1, e2]
        · obtain ⟨m1, m2⟩ := old e2 k3 k4
          subst e1
          rw [Nm.add_same] at k5; cases k5
          rw [Nm.add_other _ e2] at k6
          exact absurd (hh.inj _ _ _ _ _ _ h1 trivial m2 k4 h2 k6 k7).symm m1
      · obtain ⟨m1, m2⟩ := old e1 k1 k2
        rw [Nm.add_other _ e1] at k5
        by_cases e2 : b2 = h.next
        · subst e2
          rw [Nm.add_same] at k6; cases k6
          exact absurd (hh.inj _ _ _ _ _ _ m2 k2 h1 trivial k5 h2 k7) m1
        · obtain ⟨n1, n2⟩ := old e2 k3 k4
          rw [Nm.add_other _ e2] at k6
          exact hh.inj _ _ _ _ _ _ m2 k2 n2 k4 k5 k6 k7
  · intro k d hk
    show k < h.next + 1 ∧ d.id < (w.setRow c.id A).heap.size
    rw [size_setRow]
    by_cases ek : k = h.next
    · subst ek; rw [Nm.add_same] at hk; cases hk
      exact ⟨Nat.lt_succ_self _, (hn _ _ h2).2⟩
    · rw [Nm.add_other _ ek] at hk
      exact ⟨Nat.lt_succ_of_lt (hn _ _ hk).1, (hn _ _ hk).2⟩

theorem grown_ok {t u ty e : TypeId} {d : TypeDesc} {i : TypeInfo} {z : Value} {n l k : Nat} {base : Option Addr} {x' : Value} {new old : List AV} {os ls : List Value} {h0 : AH}
    (ho : Out P ι h w ι h0 w) (hnx : h0.next = h.next)
    (ht : P.underlying t = some (.slice e)) (hu : P.underlying u = some d) (hd : slStr d = true) (hi : P.info? e = some i) (hz : i.zero = some z) (hzl : z.cells.size = i.size) (hb : i.bytes ≠ 0) (hb2 : i.bytes ≤ 4096)
    (hlen : (Builtin.lenOf x').run P w = .ok n w) (hfc : (Builtin.firstCells i.size n x').run P w.drew = .ok ⟨ls⟩ w.drew) (hold : (Builtin.firstCells i.size l (.slice base l k)).run P w.drew = .ok ⟨os⟩ w.drew) (hfit : k < l + n) (hsm : l + n ≤ 300000)
    (r1 : LRel ι old os) (r2 : LRel ι new ls) (l1 : os.length = l * i.size) (l2 : ls.length = n * i.size) :
    ∃ v' w' κ, (Builtin.append_ #[t, u] ty #[.slice base l k, x']).run P w = .ok v' w' ∧ VRel κ (.sl h.next 0 (l + n) (l + n) false) v' ∧ Out P ι h w κ (h0.new (.cells (appL old new) e)) w' := by
  have hs : sizeB P e = some i.size := by simp [sizeB, ob, hi]
  have hcap : l + n ≤ grownCap w (l + n) k e := by unfold grownCap Question.cut; simp
  refine ⟨_, _, ι.add h0.next ⟨w.drew.heap.size, grownCap w (l + n) k e⟩, run_append_more ht hu hd hi hz hb hb2 hlen hfc hold hfit hsm, ?_, (ho.trans (Out.drew ho.hrel ho.nok)).trans (Out.new ho.hrel.drew ho.nok.drew ?_)⟩
  · rw [hnx]
    exact .sl _ _ _ _ _ _ _ (Nm.add_same _ _ _) (fun h => by cases h) hcap (fun _ _ => rfl)
  · have hle := Nm.le_add (⟨w.drew.heap.size, grownCap w (l + n) k e⟩ : Blk) ho.nok.none
    refine ⟨rfl, rfl, ⟨os ++ ls, _, rfl, by rw [appL_eq]; exact (r1.mono hle).append (r2.mono hle)⟩, i.size, hs, ?_⟩
    simp only [List.size_toArray, List.length_append, l1, l2, Array.length_toList, size_zeroCells, hzl]
    rw [← Nat.add_mul, ← Nat.add_mul]
    congr 1
    show l + n + (grownCap w (l + n) k e - (l + n)) = grownCap w (l + n) k e
    omega

theorem appendA_ok {t u ty : TypeId} {s x v : AV} {s' x' : Value} (e : appendA P h t u s x = some (v, h')) (hh : HRel P ι h.objs.get w) (hn : NOk ι h.next w) (rs : VRel ι s s') (rx : VRel ι x x') :
    ∃ v' w' κ, (Builtin.append_ #[t, u] ty #[s', x']).run P w = .ok v' w' ∧ VRel κ v v' ∧ Out P ι h w κ h' w' := by
  obtain ⟨el, e1, e2⟩ := ob_eq.1 e
  obtain ⟨d, e3, e4⟩ := ob_eq.1 e2
  obtain ⟨e5, e6⟩ := cnd_eq.1 e4
  obtain ⟨i, e7, e8⟩ := ob_eq.1 e6
  obtain ⟨z, e9, e10⟩ := ob_eq.1 e8
  rcases cnd_of e10 with ⟨_, c⟩ | ⟨e11, e12⟩
  · cases c
  rcases cnd_of e12 with ⟨_, c⟩ | ⟨e13, e14⟩
  · cases c
  obtain ⟨e15, e16⟩ := cnd_eq.1 e14
  obtain ⟨e17, e18⟩ := cnd_eq.1 e16
  obtain ⟨⟨n, new⟩, e19, e20⟩ := ob_eq.1 e18
  obtain ⟨e21, e22⟩ := cnd_eq.1 e20
  obtain ⟨e23, e24⟩ := cnd_eq.1 e22
  have ht := sliceElem_eq e1
  have hb : i.bytes ≠ 0 := by intro h0; rw [h0] at e13; cases e13
  have hsz : i.size ≠ 0 := by intro h0; rw [h0] at e11; cases e11
  have hb2 := ble_le e15
  have hn3 := ble_le e23
  have hzl : z.cells.size = i.size := by
    have := beq_eq e17
    rw [lenL_eq, (valCells_rel (ι := ι) z).length] at this
    simpa using this
  have hs : sizeB P el = some i.size := by simp [sizeB, ob, e7]
  obtain ⟨ls, f1, f2, f3, f4⟩ := srcA_ok e19 hh rx
  simp only at e24
  split at e24
  · rename_i l c
    obtain ⟨g1, g2⟩ := cnd_eq.1 e24
    obtain ⟨g3, g4⟩ := cnd_eq.1 g2
    obtain rfl := beq_eq g1
    obtain rfl := beq_eq g3
    cases rs
    rcases cnd_of g4 with ⟨g5, g6⟩ | ⟨g5, g6⟩
    · cases g6
      obtain rfl := beq_eq g5
      exact ⟨_, w, ι, by rw [run_append_fits ht e3 e5 hs f3 (f4 w rfl) (Nat.le_refl _)]; rfl, .flat _, Out.refl hh hn⟩
    · cases g6
      have hn0 : n ≠ 0 := by rintro rfl; cases g5
      have := grown_ok (ty := ty) (l := 0) (k := 0) (base := none) (old := []) (os := []) (Out.refl hh hn) rfl ht e3 e5 e7 e9 hzl hb hb2 f3 (f4 w.drew rfl) (run_firstCells_none _ _ _ _ _) (by omega) (by omega) .nil f1 (by simp) f2
      simpa [appL] using this
  · rename_i b o l c ex
    obtain ⟨⟨cs, el'⟩, g1, g2⟩ := ob_eq.1 e24
    obtain ⟨bk, vs, rest, s, k1, k2, k3, k4, k5⟩ := hh.cells (cells?_eq g1)
    cases rs with
    | sl _ _ _ _ _ bk' k hc hex hle hcap =>
      rw [k1] at hc; cases hc
      rcases cnd_of g2 with ⟨g3, g4⟩ | ⟨g3, g4⟩
      · obtain ⟨r, g5, g6⟩ := ob_eq.1 g4
        cases g6
        have hfit : l + n ≤ c := ble_le g3
        obtain ⟨m1, m2⟩ := k3.layAt f1 g5
        refine ⟨.slice (some ⟨bk.id, o, none⟩) (l + n) k, _, ι, ?_, .sl _ _ _ _ _ bk k k1 hex hle hcap, Out.put hh hn (cells?_eq g1) k1 k2 m2 (by simp at m1 ⊢; omega) k4 k5⟩
        rw [run_append_fits ht e3 e5 hs f3 (f4 w rfl) (by omega)]
        simp only [addr_add]
        rw [show storeCells ⟨bk.id, o + l * i.size, none⟩ ls = storeCells ⟨bk.id, Nat.add o (Nat.mul l i.size), none⟩ ls from rfl]
        rw [run_storeRow k2 m1 (f1.allOne e21)]
        rfl
      · obtain ⟨g5, g6⟩ := cnd_eq.1 g4
        obtain ⟨g7, g8⟩ := cnd_eq.1 g6
        obtain ⟨old, g9, g10⟩ := ob_eq.1 g8
        obtain ⟨g11, g12⟩ := cnd_eq.1 g10
        have hl3 := ble_le g5
        obtain ⟨m1, m2⟩ := k3.takeAt g9
        have hlen : ((vs.drop o).take (Nat.mul l i.size)).length = l * i.size := by
          have k0 : l * i.size = 0 ∨ o + l * i.size ≤ vs.length := m1
          show ((vs.drop o).take (l * i.size)).length = l * i.size
          rw [List.length_take, List.length_drop]
          omega
        have hold : (Builtin.firstCells i.size l (.slice (some ⟨bk.id, o, none⟩) l k)).run P w.drew = .ok ⟨(vs.drop o).take (Nat.mul l i.size)⟩ w.drew := by
          refine run_firstCells_some w.drew i.size l ⟨bk.id, o, none⟩ l k _ hlen fun j v hj => ?_
          rw [addr_add]
          rw [List.getElem?_take] at hj
          split at hj
          · rw [List.getElem?_drop] at hj
            have hlt := (List.getElem?_eq_some_iff.1 hj).1
            have h2 : w.drew.heap[bk.id]? = some (.cells ⟨vs ++ rest⟩ el' (0, 0)) := k2
            simp [World.cell?, h2, List.getElem?_append_left hlt, hj]
          · cases hj
        rcases cnd_of g12 with ⟨rfl, g13⟩ | ⟨rfl, g13⟩
        · cases g13
          have hk : k < l + n := by have := hex rfl; have := ble_no g3; simp at this; omega
          exact grown_ok (ty := ty) (Out.refl hh hn) rfl ht e3 e5 e7 e9 hzl hb hb2 f3 (f4 w.drew rfl) hold hk (by omega) m2 f1 hlen f2
        · obtain ⟨g14, g15⟩ := cnd_eq.1 g13
          obtain ⟨g16, g17⟩ := cnd_eq.1 g15
          obtain ⟨g18, g19⟩ := cnd_eq.1 g17
          cases g19
          obtain rfl := beq_eq g16
          obtain rfl := beq_eq g18
          have hvl : vs.length = l * i.size := by
            have := beq_eq g14
            rw [lenL_eq, k3.length] at this
            simpa using this
          have hkc := hcap rfl rfl
          rw [hs] at k4; cases k4
          have hall : (vs.drop 0).take (Nat.mul l i.size) = vs := by
            rw [List.drop_zero]; exact List.take_of_length_le (by rw [hvl]; exact Nat.le_refl _)
          rw [hall] at m2
          by_cases hk : k < l + n
          · exact grown_ok (ty := ty) (Out.kill hh hn b (by rw [cells?_eq g1]; simp)) rfl ht e3 e5 e7 e9 hzl hb hb2 f3 (f4 w.drew rfl) hold hk (by omega) (by rw [hall]; exact m2) f1 hlen f2
          · have hle2 : (l + n) * i.size ≤ k * i.size := Nat.mul_le_mul_right _ (by omega)
            rw [Nat.add_mul] at hle2
            have hrest : n * i.size ≤ rest.length := by rw [hkc] at hle2; omega
            have hle' := Nm.le_add bk hn.none
            refine ⟨.slice (some ⟨bk.id, 0, none⟩) (l + n) k, _, ι.add h.next bk, ?_, .sl _ _ _ _ _ bk k (Nm.add_same _ _ _) (fun h => by cases h) (by show l + n ≤ k; omega) (fun _ _ => hkc),
              Out.move (A := ⟨(vs ++ ls) ++ rest.drop (n * i.size)⟩) hh hn (cells?_eq g1) k1 k2 ⟨rfl, rfl, ⟨vs ++ ls, rest.drop (n * i.size), rfl, by rw [appL_eq]; exact (m2.mono hle').append (f1.mono hle')⟩, i.size, hs, ?_⟩⟩
            · rw [run_append_fits ht e3 e5 hs f3 (f4 w rfl) (by omega)]
              simp only [addr_add, Nat.zero_add]
              rw [run_storeCells_at P bk.id (l * i.size) _ ls 0 ⟨vs ++ rest⟩ w k2 (by simp; omega) (f1.allOne e21)]
              simp only [Result.andThen_ok]
              congr 2
              apply Array.ext'
              simp [hvl.symm, f2, List.drop_append, List.append_assoc]
            · simp only [List.size_toArray, List.length_append, List.length_drop, f2]
              omega
  · cases e24
end
end Go.Proofs.Ytegkgfiaegpihaa
