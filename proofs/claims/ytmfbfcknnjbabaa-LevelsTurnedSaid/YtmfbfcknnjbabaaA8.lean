/- The contract of Copy, for any town of at most 1000 words of a kind. The contracts of Holds, of both sides, and of Same. -/
import Derived.Test.YtmfbfcknnjbabaaA6
import Derived.Deep.RegionLawGrows
import Derived.Deep.AppendLies
import Derived.Deep.RegionHeld3
set_option linter.unusedSimpArgs false
set_option linter.unusedVariables false
namespace Go.Proofs.Ytmfbfcknnjbabaa
open Go.RowKit

/-- what a copy by append to an empty literal leaves -/
structure Copied (w w' : World) (x : Option Addr) (n : Nat) (y : Option Addr) : Prop where
  below : Below w.heap.size w w'
  here : 0 < n → ∃ b, y = some ⟨b, 0, none⟩ ∧ w.heap.size ≤ b ∧ b < w'.heap.size ∧ ∀ a, x = some a → ∀ j, j < n → w'.cell? ⟨b, j, none⟩ = w.cell? (a.add j)

theorem step_append_copy {P : Program} {ops : Array Oper} {o : Oper} {a : Act} {w : World} {K : Act → World → Prop} {Q : Exit → Act → World → Prop} {E : Prop}
    (hg : o.guard = none) (s x : Operand) (t : TypeId) (hop : o.op = Op.call { callee := Callee.builtin Builtin.append, args := #[s, x], argTypes := #[t, t] })
    (e : TypeId) (i : TypeInfo) (z : Value) (size bytes : Nat) (h1 : P.underlying t = some (.slice e)) (h2 : P.info? e = some i) (h3 : i.zero = some z) (h4 : i.size = size) (h5 : i.bytes = bytes) (h6 : z.cells.size = size) (h7 : 0 < size)
    (g : Nat) (hs : a.eval s = .slice (some ⟨g, 0, none⟩) 0 0)
    (ad : Option Addr) (m c : Nat) (hx : a.eval x = .slice ad m c)
    (hc : 0 < m → ∃ b o, ad = some ⟨b, o, none⟩ ∧ ∀ j, j < m * size → ∃ u, w.cell? ⟨b, o + j, none⟩ = some u ∧ u.oneCell' = true)
    (b1 : m ≤ maxLen) (b2 : m * bytes ≤ 140737488355328)
    (hK : ∀ y c' w', Copied w w' ad (m * size) y → K (a.put o.dst (.slice y m c')) w') :
    if Region.wanted o (yielded ops a.tmps) = true then Oper.wp P o a w K Q else E := by
  by_cases hm : 0 < m
  · obtain ⟨b, of, rfl, hcell⟩ := hc hm
    have hch : ∃ f : Nat → Value, ∀ j, j < m * size → w.cell? ⟨b, of + j, none⟩ = some (f j) ∧ (f j).oneCell' = true :=
      ⟨fun j => (w.cell? ⟨b, of + j, none⟩).getD undef, fun j hj => by obtain ⟨u, hu, hu1⟩ := hcell j hj; simp [hu, hu1]⟩
    obtain ⟨f, hf⟩ := hch
    have hadd : ∀ (x o j : Nat), (⟨x, o, none⟩ : Addr).add j = ⟨x, o + j, none⟩ := fun x o j => by unfold Addr.add; split <;> simp_all
    refine step_append_grows hg s x t hop e i z size bytes h1 h2 h3 h4 h5 h6 h7 (some ⟨g, 0, none⟩) 0 0 [] hs (by simp) (by simp) (by simp) ⟨b, of, none⟩ m c ((List.range (m * size)).map f) hx (by simp) ?_ ?_ (by omega) (by omega) (by rw [Nat.zero_add]; exact b2) ?_
    · intro j u hu
      have hj : j < m * size := by have := (List.getElem?_eq_some_iff.1 hu).1; simpa using this
      simp [hj] at hu
      rw [hadd, (hf j hj).1, hu]
    · intro u hu
      simp at hu
      obtain ⟨j, hj, rfl⟩ := hu
      exact (hf j hj).2
    · intro v' w' hown hgrow
      have hpos : 0 < m * size := Nat.mul_pos hm h7
      rcases hown.2 with ⟨_, h0⟩ | ⟨gb, cap, cur, rfl, hb, hgb, hle, _, hsz, htk⟩
      · omega
      · simp only [Nat.zero_add, List.nil_append] at *
        refine hK _ _ _ ⟨⟨hgrow.os, hgrow.tape, hgrow.output, hgrow.size, fun k hk => hgrow.block k hk (by simp)⟩, fun _ => ⟨gb, rfl, hb, ?_, ?_⟩⟩
        · exact (Array.getElem?_eq_some_iff.1 hgb).1
        · intro a' ha' j hj
          simp only [Option.some.injEq] at ha'
          subst ha'
          rw [hadd, (hf j hj).1, cell_of_row w' gb j cur e (0, 0) hgb]
          have h2 : (cur.toList.take (m * size))[j]? = some (f j) := by rw [htk]; simp [hj]
          rw [List.getElem?_take_of_lt hj] at h2
          simpa using h2
  · obtain rfl : m = 0 := by omega
    have hw : Region.wanted o (yielded ops a.tmps) = true := by simp [Region.wanted, hg]
    rw [if_pos hw]
    have hrun : (Builtin.append_ #[t, t] o.type #[.slice (some ⟨g, 0, none⟩) 0 0, .slice ad 0 c]).run P w = .ok (.slice (some ⟨g, 0, none⟩) 0 0) w := by
      cases ad <;> simp [Builtin.append_, run_underlying h1, sizeOf, typeInfo, h2, Builtin.lenOf, Builtin.firstCells, loadCells, loadCellsFrom, storeCells, Sem.run_bind]
    unfold Oper.wp
    simp [execOp, hop, resolve, invoke, builtin, hs, hx, hrun, Result.andThen]
    exact hK _ _ _ ⟨Below.refl _ _, fun h => by omega⟩

/-- as the law, the facts on the source lying in an elder world -/
theorem step_append_copy' {P : Program} {ops : Array Oper} {o : Oper} {a : Act} {w : World} {K : Act → World → Prop} {Q : Exit → Act → World → Prop} {E : Prop} (w0 : World)
    (hg : o.guard = none) (s x : Operand) (t : TypeId) (hop : o.op = Op.call { callee := Callee.builtin Builtin.append, args := #[s, x], argTypes := #[t, t] })
    (e : TypeId) (i : TypeInfo) (z : Value) (size bytes : Nat) (h1 : P.underlying t = some (.slice e)) (h2 : P.info? e = some i) (h3 : i.zero = some z) (h4 : i.size = size) (h5 : i.bytes = bytes) (h6 : z.cells.size = size) (h7 : 0 < size)
    (g : Nat) (hs : a.eval s = .slice (some ⟨g, 0, none⟩) 0 0)
    (ad : Option Addr) (m c : Nat) (hx : a.eval x = .slice ad m c)
    (hc : 0 < m → ∃ b o, ad = some ⟨b, o, none⟩ ∧ b < w0.heap.size ∧ ∀ j, j < m * size → ∃ u, w0.cell? ⟨b, o + j, none⟩ = some u ∧ u.oneCell' = true)
    (b1 : m ≤ maxLen) (b2 : m * bytes ≤ 140737488355328) (hb : Below w0.heap.size w0 w)
    (hK : ∀ y c' w', Below w0.heap.size w0 w' → Below w.heap.size w w' → (0 < m → ∃ b, y = some ⟨b, 0, none⟩ ∧ w.heap.size ≤ b ∧ b < w'.heap.size ∧ ∀ a, ad = some a → ∀ j, j < m * size → w'.cell? ⟨b, j, none⟩ = w0.cell? (a.add j)) → K (a.put o.dst (.slice y m c')) w') :
    if Region.wanted o (yielded ops a.tmps) = true then Oper.wp P o a w K Q else E :=
  step_append_copy hg s x t hop e i z size bytes h1 h2 h3 h4 h5 h6 h7 g hs ad m c hx
    (fun h => let ⟨b, o, e, hl, hu⟩ := hc h; ⟨b, o, e, fun j hj => let ⟨u, hu, h1⟩ := hu j hj; ⟨u, (hb.cell hl).trans hu, h1⟩⟩) b1 b2
    fun y c' w' hco => hK y c' w' (bT hb hco.below) hco.below fun h => by
      obtain ⟨b, o, e, hl, hu⟩ := hc h
      obtain ⟨b', e', h1, h2, h3⟩ := hco.here (Nat.mul_pos h h7)
      refine ⟨b', e', h1, h2, fun a ha j hj => (h3 a ha j hj).trans (hb.cell ?_)⟩
      rw [e] at ha
      simp only [Option.some.injEq] at ha
      subst ha
      unfold Addr.add; split <;> exact hl

theorem SndAt.cells {w : World} {b o : Nat} {l : List Snd} (h : SndAt w b o l) : ∀ j, j < l.length * 3 → ∃ u, w.cell? ⟨b, o + j, none⟩ = some u ∧ u.oneCell' = true := fun j hj => by
  have hk : j / 3 < l.length := by omega
  have h3 : j % 3 = 0 ∨ j % 3 = 1 ∨ j % 3 = 2 := by omega
  rcases h3 with h3 | h3 | h3
  · have t := h.c0 _ hk; rw [show o + j / 3 * 3 = o + j by omega] at t; exact ⟨_, t, rfl⟩
  · have t := h.c1 _ hk; rw [show o + j / 3 * 3 + 1 = o + j by omega] at t; exact ⟨_, t, rfl⟩
  · have t := h.c2 _ hk; rw [show o + j / 3 * 3 + 2 = o + j by omega] at t; exact ⟨_, t, rfl⟩
theorem SlpAt.cells {w : World} {b o : Nat} {l : List Slp} (h : SlpAt w b o l) : ∀ j, j < l.length * 4 → ∃ u, w.cell? ⟨b, o + j, none⟩ = some u ∧ u.oneCell' = true := fun j hj => by
  have hk : j / 4 < l.length := by omega
  have h3 : j % 4 = 0 ∨ j % 4 = 1 ∨ j % 4 = 2 ∨ j % 4 = 3 := by omega
  rcases h3 with h3 | h3 | h3 | h3
  · have t := h.c0 _ hk; rw [show o + j / 4 * 4 = o + j by omega] at t; exact ⟨_, t, rfl⟩
  · have t := h.c1 _ hk; rw [show o + j / 4 * 4 + 1 = o + j by omega] at t; exact ⟨_, t, rfl⟩
  · have t := h.c2 _ hk; rw [show o + j / 4 * 4 + 2 = o + j by omega] at t; exact ⟨_, t, rfl⟩
  · have t := h.c3 _ hk; rw [show o + j / 4 * 4 + 3 = o + j by omega] at t; exact ⟨_, t, rfl⟩

theorem info62 : (Try.prog.info? 62).map (fun i => (i.zero, i.size, i.bytes)) = some (some (.agg #[.int .i64 0, .int .i64 0, .int .i64 0]), 3, 24) := by kernel_rfl
theorem info58 : (Try.prog.info? 58).map (fun i => (i.zero, i.size, i.bytes)) = some (some (.agg #[.int .i64 0, .int .i64 0, .int .i64 0, .int .i64 0]), 4, 32) := by kernel_rfl

theorem TownIn.src {w : World} {B : Nat} {T : Town} {p q : Option Addr} (h : TownIn w B T p q) : 0 < T.s.length → ∃ b o, p = some ⟨b, o, none⟩ ∧ b < B ∧ ∀ j, j < T.s.length * 3 → ∃ u, w.cell? ⟨b, o + j, none⟩ = some u ∧ u.oneCell' = true := fun hs => by
  obtain ⟨b, o, e, hl, hsn⟩ := h.s hs
  exact ⟨b, o, e, hl, hsn.cells⟩
theorem TownIn.srcr {w : World} {B : Nat} {T : Town} {p q : Option Addr} (h : TownIn w B T p q) : 0 < T.r.length → ∃ b o, q = some ⟨b, o, none⟩ ∧ b < B ∧ ∀ j, j < T.r.length * 4 → ∃ u, w.cell? ⟨b, o + j, none⟩ = some u ∧ u.oneCell' = true := fun hs => by
  obtain ⟨b, o, e, hl, hsn⟩ := h.r hs
  exact ⟨b, o, e, hl, hsn.cells⟩

theorem add_at (x o j : Nat) : (⟨x, o, none⟩ : Addr).add j = ⟨x, o + j, none⟩ := by unfold Addr.add; split <;> simp_all
theorem copy_end {w w2 wf : World} {T : Town} {p q y1 y2 : Option Addr} (ht : TownIn w w.heap.size T p q)
    (h1 : 0 < T.s.length → ∃ b, y1 = some ⟨b, 0, none⟩ ∧ w.heap.size + 2 ≤ b ∧ b < w2.heap.size ∧ ∀ a, p = some a → ∀ j, j < T.s.length * 3 → w2.cell? ⟨b, j, none⟩ = w.cell? (a.add j))
    (h2 : 0 < T.r.length → ∃ b, y2 = some ⟨b, 0, none⟩ ∧ w.heap.size + 2 ≤ b ∧ b < w2.heap.size ∧ ∀ a, q = some a → ∀ j, j < T.r.length * 4 → w2.cell? ⟨b, j, none⟩ = w.cell? (a.add j))
    (hc : ∀ b j, w.heap.size + 2 ≤ b → wf.cell? ⟨b, j, none⟩ = w2.cell? ⟨b, j, none⟩) (hz : wf.heap.size = w2.heap.size) : TownIn wf wf.heap.size T y1 y2 := by
  refine ⟨fun h => ?_, fun h => ?_⟩
  · obtain ⟨b, e, l1, l2, f⟩ := h1 h
    obtain ⟨b0, o0, rfl, _, a⟩ := ht.s h
    have g : ∀ j, j < T.s.length * 3 → wf.cell? ⟨b, j, none⟩ = w.cell? ⟨b0, o0 + j, none⟩ := fun j hj => by rw [hc b j l1, f _ rfl j hj, add_at]
    refine ⟨b, 0, e, by omega, ⟨fun k hk => ?_, fun k hk => ?_, fun k hk => ?_⟩⟩
    · rw [Nat.zero_add, g _ (by omega)]; exact a.c0 k hk
    · rw [Nat.zero_add, g _ (by omega)]; exact a.c1 k hk
    · rw [Nat.zero_add, g _ (by omega)]; exact a.c2 k hk
  · obtain ⟨b, e, l1, l2, f⟩ := h2 h
    obtain ⟨b0, o0, rfl, _, a⟩ := ht.r h
    have g : ∀ j, j < T.r.length * 4 → wf.cell? ⟨b, j, none⟩ = w.cell? ⟨b0, o0 + j, none⟩ := fun j hj => by rw [hc b j l1, f _ rfl j hj, add_at]
    refine ⟨b, 0, e, by omega, ⟨fun k hk => ?_, fun k hk => ?_, fun k hk => ?_, fun k hk => ?_⟩⟩
    · rw [Nat.zero_add, g _ (by omega)]; exact a.c0 k hk
    · rw [Nat.zero_add, g _ (by omega)]; exact a.c1 k hk
    · rw [Nat.zero_add, g _ (by omega)]; exact a.c2 k hk
    · rw [Nat.zero_add, g _ (by omega)]; exact a.c3 k hk

set_option maxRecDepth 100000 in
set_option maxHeartbeats 1000000 in
theorem copy_any (T : Town) (p q : Option Addr) (c d : Nat) (w : World) (hs : T.s.length ≤ 1000) (hr : T.r.length ≤ 1000) (ht : TownIn w w.heap.size T p q) :
    Calls Try.prog 17 #[.agg #[.int .i64 T.W, .slice p T.s.length c, .slice q T.r.length d]] w fun e w' => ∃ p' c' q' d', e = .returned (.agg #[.int .i64 T.W, .slice p' T.s.length c', .slice q' T.r.length d']) ∧ Below w.heap.size w w' ∧ TownIn w' w'.heap.size T p' q' := by
  have HT := Lib.hid ht; clear ht
  obtain ⟨i3, hi3, hz3, hz3', hz3''⟩ := info_parts info62
  obtain ⟨i4, hi4, hz4, hz4', hz4''⟩ := info_parts info58
  have s1 : T.s.length ≤ maxLen := by unfold maxLen; omega
  have s2 : T.r.length ≤ maxLen := by unfold maxLen; omega
  have S1 := Lib.hid s1; have S2 := Lib.hid s2; clear s1 s2
  have I3 := Lib.hid hi3; have Z3 := Lib.hid hz3; have Z3' := Lib.hid hz3'; have Z3'' := Lib.hid hz3''; clear hi3 hz3 hz3' hz3''
  have I4 := Lib.hid hi4; have Z4 := Lib.hid hz4; have Z4' := Lib.hid hz4'; have Z4'' := Lib.hid hz4''; clear hi4 hz4 hz4' hz4''
  go_enter Try.func17, Try.ntmps17
  go_wp2
  go_region_held3 (fun w' => w'.cell? ⟨w.heap.size, 0, none⟩ = some (.int .i64 T.W) ∧ w'.cell? ⟨w.heap.size, 1, none⟩ = some (.slice p T.s.length c) ∧ w'.cell? ⟨w.heap.size, 2, none⟩ = some (.slice q T.r.length d))
    (first
      | go_keep
      | (go_split_ands
         refine ⟨?_, ?_, ?_⟩ <;> (rw [Below.cell (by assumption) (by simp; try omega)]; assumption)))
    (first
    | (refine step_append_copy' w rfl (.tmp 5) (.tmp 7) 22 rfl 62 i3 _ 3 24 Try.underlying22 I3.out Z3.out Z3'.out Z3''.out rfl (by decide) _ (by simp [Act.eval, Act.put]; rfl) p T.s.length c (by simp [Act.eval, Act.put]) HT.out.src S1.out (by omega) (by repeat (first | assumption | exact Below.refl _ _ | refine bA ?_ _ | refine bd ?_)) ?_; intro y1 c1 w1 hB1 hb1 hc1; have j0 : w1.cell? ⟨w.heap.size + 1, 0, none⟩ = some (.int .i64 0) := (hb1.cell (by simp; try omega)).trans (by go_simp); have j1 : w1.cell? ⟨w.heap.size + 1, 1, none⟩ = some (.slice none 0 0) := (hb1.cell (by simp; try omega)).trans (by go_simp); have j2 : w1.cell? ⟨w.heap.size + 1, 2, none⟩ = some (.slice none 0 0) := (hb1.cell (by simp; try omega)).trans (by go_simp); have f0 : ∀ i, w1.frozen? ⟨w.heap.size + 1, i, none⟩ = false := fun i => (hb1.frozen (by simp; try omega)).trans (by go_simp); have z : w.heap.size + 1 < w1.heap.size := (by have t := hb1.size; (try simp at t); omega); have z' : w.heap.size < w1.heap.size := (by omega); have HC1 := Lib.hid hc1; clear hc1)
    | (refine step_append_copy' w rfl (.tmp 9) (.tmp 11) 23 rfl 58 i4 _ 4 32 Try.underlying23 I4.out Z4.out Z4'.out Z4''.out rfl (by decide) _ (by simp [Act.eval, Act.put]; rfl) q T.r.length d (by simp [Act.eval, Act.put]) HT.out.srcr S2.out (by omega) (by repeat (first | assumption | exact Below.refl _ _ | refine bA ?_ _ | refine bd ?_)) ?_; intro y2 c2 w2 hB2 hb2 hc2; have j0 : w2.cell? ⟨w.heap.size + 1, 0, none⟩ = some (.int .i64 0) := (hb2.cell (by simp; try omega)).trans (by go_simp); have j1 : w2.cell? ⟨w.heap.size + 1, 1, none⟩ = some (.slice none 0 0) := (hb2.cell (by simp; try omega)).trans (by go_simp); have j2 : w2.cell? ⟨w.heap.size + 1, 2, none⟩ = some (.slice none 0 0) := (hb2.cell (by simp; try omega)).trans (by go_simp); have f0 : ∀ i, w2.frozen? ⟨w.heap.size + 1, i, none⟩ = false := fun i => (hb2.frozen (by simp; try omega)).trans (by go_simp); have z : w.heap.size + 1 < w2.heap.size := (by have t := hb2.size; (try simp at t); omega); have z' : w.heap.size < w2.heap.size := (by omega); have HC2 := Lib.hid hc2; clear hc2))
  all_goals
    have K1 : 0 < T.s.length → ∃ b, y1 = some ⟨b, 0, none⟩ ∧ w.heap.size + 2 ≤ b ∧ b < w2.heap.size ∧ ∀ a, p = some a → ∀ j, j < T.s.length * 3 → w2.cell? ⟨b, j, none⟩ = w.cell? (a.add j) := fun h => by
      obtain ⟨b, e, l1, l2, f⟩ := HC1.out h
      simp at l1
      refine ⟨b, e, by omega, by have t := hb2.size; (try simp at t); omega, fun a ha j hj => ((hb2.cell (by simp; try omega)).trans ?_).trans (f a ha j hj)⟩
      first | rfl | exact World.cell?_alloc_past _ _ _ l2
    have K2 : 0 < T.r.length → ∃ b, y2 = some ⟨b, 0, none⟩ ∧ w.heap.size + 2 ≤ b ∧ b < w2.heap.size ∧ ∀ a, q = some a → ∀ j, j < T.r.length * 4 → w2.cell? ⟨b, j, none⟩ = w.cell? (a.add j) := fun h => by
      obtain ⟨b, e, l1, l2, f⟩ := HC2.out h
      have t := hb1.size
      simp at l1 t
      exact ⟨b, e, by omega, l2, f⟩
    have HK1 := Lib.hid K1
    have HK2 := Lib.hid K2
    clear K1 K2 HC1 HC2 hb1 hb2 hB1
    go_wp2
    exact bodyPost_ret (v := .agg #[.int .i64 T.W, .slice y1 T.s.length c1, .slice y2 T.r.length c2]) (by simp [results, Try.results17, go_sem, j0, j1, j2]) rfl
      ⟨y1, c1, y2, c2, rfl, by repeat (first | assumption | refine bS ?_ (by simp) _),
        copy_end HT.out HK1.out HK2.out (fun b j hb => by have : w.heap.size + 1 < b := by omega
                                                          have h2 : b ≠ w.heap.size + 1 := by omega
                                                          simp [World.cell?_setCell_other, h2, Ne.symm h2]) (by simp)⟩
end Go.Proofs.Ytmfbfcknnjbabaa

namespace Go.Proofs.Ytmfbfcknnjbabaa
open Go.RowKit

theorem box_town (w : World) (W : Int) (p q : Option Addr) (m n c d : Nat) :
    ∃ w1, w.alloc (Obj.cells #[Value.int IntKind.i64 W, Value.slice p m c, Value.slice q n d] 25) = w1 ∧ Below w.heap.size w w1 ∧ w1.heap.size = w.heap.size + 1 ∧
      w1.cell? ⟨w.heap.size, 0, none⟩ = some (.int .i64 W) ∧ w1.cell? ⟨w.heap.size, 1, none⟩ = some (.slice p m c) ∧ w1.cell? ⟨w.heap.size, 2, none⟩ = some (.slice q n d) :=
  ⟨_, rfl, bA (Below.refl _ _) _, by simp, by go_simp, by go_simp, by go_simp⟩

/-- levels.Holds -/
theorem holdsP_any (T : Town) (p q : Option Addr) (c d : Nat) (xs : List Int) (x : Option Addr) (cx : Nat) (w : World) (hs : T.s.length ≤ 1000000) (hr : T.r.length ≤ 1000000) (hx : xs.length ≤ 1000000) (ht : TownIn w w.heap.size T p q)
    (h1 : 0 < xs.length → ∃ b o, x = some ⟨b, o, none⟩ ∧ IntsAt w w.heap.size b o xs) :
    Calls Try.prog 18 #[.agg #[.int .i64 T.W, .slice p T.s.length c, .slice q T.r.length d], .slice x xs.length cx] w fun e w' => e = .returned (.tuple #[.bool (T.ok && truth T xs), .int .i64 (vErr T.ok)]) ∧ Below w.heap.size w w' := by
  obtain ⟨w1, hw1, hb, _, k0, k1, k2⟩ := box_town w T.W p q T.s.length T.r.length c d
  have hz := hb.size
  have hv := valid_any T p q c d w1 hs hr ((ht.below hb).mono hz)
  by_cases hok : T.ok = true
  · rw [hok] at hv ⊢
    have htr : ∀ w2, Below w1.heap.size w1 w2 → Calls Try.prog 57 #[.agg #[.int .i64 T.W, .slice p T.s.length c, .slice q T.r.length d], .slice x xs.length cx] w2 fun e w' => e = .returned (.bool (truth T xs)) ∧ Below w2.heap.size w2 w' := fun w2 h2 => by
      have hb2 := bT hb h2
      refine isTruthP_any T p q c d xs x cx w2 hx hok ((ht.below hb2).mono hb2.size) fun h => ?_
      obtain ⟨b, o, e, hi⟩ := h1 h
      exact ⟨b, o, e, (hi.below hb2).mono hb2.size⟩
    have HV := Lib.hid hv; have HTR := Lib.hid htr; have HB := Lib.hid hb
    have hlt : w.heap.size < w1.heap.size := by omega
    clear hv htr hb hz ht h1
    go_enter Try.func18, Try.ntmps18
    go_wp2_with (go_at_call 56; refine HV.out.mono ?_; rintro e w2 ⟨rfl, hb2⟩; have c0 := (hb2.cell (p := ⟨w.heap.size, 0, none⟩) hlt).trans k0; have c1 := (hb2.cell (p := ⟨w.heap.size, 1, none⟩) hlt).trans k1; have c2 := (hb2.cell (p := ⟨w.heap.size, 2, none⟩) hlt).trans k2)
    go_wp2_with (go_at_call 57; refine (HTR.out _ (by assumption)).mono ?_; rintro e w3 ⟨rfl, hb3⟩)
    go_ret2
    exact ⟨by simp [vErr], bT HB.out (bT hb2 hb3)⟩
  · have hok := Bool.eq_false_iff.2 hok
    rw [hok] at hv ⊢
    have HV := Lib.hid hv; have HB := Lib.hid hb
    clear hv hb hz ht h1
    go_enter Try.func18, Try.ntmps18
    go_wp2_with (go_at_call 56; refine HV.out.mono ?_; rintro e w2 ⟨rfl, hb2⟩)
    go_ret2
    exact ⟨by simp [vErr], bT HB.out hb2⟩

theorem vErr_t : vErr true = 0 := rfl
theorem vErr_f : vErr false = 10 := rfl

/-- steeningref01.Holds -/
theorem holdsR_any (T : Town) (p q : Option Addr) (c d : Nat) (xs : List Int) (x : Option Addr) (cx : Nat) (w : World) (hs : T.s.length ≤ 1000000) (hr : T.r.length ≤ 1000000) (hx : xs.length ≤ 1000000) (ht : TownIn w w.heap.size T p q)
    (h1 : 0 < xs.length → ∃ b o, x = some ⟨b, o, none⟩ ∧ IntsAt w w.heap.size b o xs) :
    Calls Try.prog 19 #[.agg #[.int .i64 T.W, .slice p T.s.length c, .slice q T.r.length d], .slice x xs.length cx] w fun e w' => e = .returned (.tuple #[.bool (T.ok && truth T xs), .int .i64 (vErr T.ok)]) ∧ Below w.heap.size w w' := by
  obtain ⟨w1, hw1, hb, _, k0, k1, k2⟩ := box_town w T.W p q T.s.length T.r.length c d
  have hz := hb.size
  have hv := checkR_any T p q c d w1 hs hr ((ht.below hb).mono hz)
  by_cases hok : T.ok = true
  · rw [hok, vErr_t] at hv
    rw [hok, vErr_t]
    have htr : ∀ w2, Below w1.heap.size w1 w2 → Calls Try.prog 46 #[.agg #[.int .i64 T.W, .slice p T.s.length c, .slice q T.r.length d], .slice x xs.length cx] w2 fun e w' => e = .returned (.bool (truth T xs)) ∧ Below w2.heap.size w2 w' := fun w2 h2 => by
      have hb2 := bT hb h2
      refine isTruthR_any T p q c d xs x cx w2 hx hok ((ht.below hb2).mono hb2.size) fun h => ?_
      obtain ⟨b, o, e, hi⟩ := h1 h
      exact ⟨b, o, e, (hi.below hb2).mono hb2.size⟩
    have HV := Lib.hid hv; have HTR := Lib.hid htr; have HB := Lib.hid hb
    have hlt : w.heap.size < w1.heap.size := by omega
    clear hv htr hb hz ht h1
    go_enter Try.func19, Try.ntmps19
    go_wp2_with (first | (go_at_call 21; refine HV.out.mono ?_; rintro e w2 ⟨rfl, hb2⟩; have c0 := (hb2.cell (p := ⟨w.heap.size, 0, none⟩) hlt).trans k0; have c1 := (hb2.cell (p := ⟨w.heap.size, 1, none⟩) hlt).trans k1; have c2 := (hb2.cell (p := ⟨w.heap.size, 2, none⟩) hlt).trans k2) | (go_at_call 46; refine (HTR.out _ (by assumption)).mono ?_; rintro e w3 ⟨rfl, hb3⟩))
    go_ret2
    exact ⟨by simp, bT HB.out (bT hb2 hb3)⟩
  · have hok := Bool.eq_false_iff.2 hok
    rw [hok, vErr_f] at hv
    rw [hok, vErr_f]
    have HV := Lib.hid hv; have HB := Lib.hid hb
    clear hv hb hz ht h1
    go_enter Try.func19, Try.ntmps19
    go_wp2_with (go_at_call 21; refine HV.out.mono ?_; rintro e w2 ⟨rfl, hb2⟩)
    go_ret2
    exact ⟨by simp, bT HB.out hb2⟩

set_option maxRecDepth 100000 in
set_option maxHeartbeats 800000 in
/-- Same, of two equal towns -/
theorem same_any (T : Town) (p q : Option Addr) (c d : Nat) (p' q' : Option Addr) (c' d' : Nat) (w : World) (hs : T.s.length ≤ 1000000) (hr : T.r.length ≤ 1000000) (ht : TownIn w w.heap.size T p q) (ht' : TownIn w w.heap.size T p' q') :
    Calls Try.prog 22 #[.agg #[.int .i64 T.W, .slice p T.s.length c, .slice q T.r.length d], .agg #[.int .i64 T.W, .slice p' T.s.length c', .slice q' T.r.length d']] w fun e w' => e = .returned (.bool true) ∧ Below w.heap.size w w' := by
  obtain ⟨w1, hw1, hb, hz1, k0, k1, k2⟩ := box_town w T.W p q T.s.length T.r.length c d
  obtain ⟨w2, hw2, hb2, hz2, m0, m1, m2⟩ := box_town w1 T.W p' q' T.s.length T.r.length c' d'
  have l1 : w.heap.size < w1.heap.size := by omega
  have l2 : w.heap.size < w2.heap.size := by omega
  have l3 : w1.heap.size < w2.heap.size := by omega
  have n0 := (hb2.cell (p := ⟨w.heap.size, 0, none⟩) l1).trans k0
  have n1 := (hb2.cell (p := ⟨w.heap.size, 1, none⟩) l1).trans k1
  have n2 := (hb2.cell (p := ⟨w.heap.size, 2, none⟩) l1).trans k2
  have HT := Lib.hid ((ht.below (bT hb hb2)).mono (B' := w2.heap.size) (by omega))
  have HT' := Lib.hid ((ht'.below (bT hb hb2)).mono (B' := w2.heap.size) (by omega))
  have HB := Lib.hid (bT hb hb2)
  have d0 : (T.W != T.W) = false := by simp
  have d1 : ((T.s.length : Int) != (T.s.length : Int)) = false := by simp
  have d2 : ((T.r.length : Int) != (T.r.length : Int)) = false := by simp
  clear k0 k1 k2 ht ht' hb hb2 hz1 hz2 l1
  go_enter Try.func22, Try.ntmps22
  go_wp2
  clear hw1 hw2
  go_loopw [5] (fun i wr => ∃ k : Nat, i = .int .i64 k ∧ k ≤ T.s.length ∧ Below w2.heap.size w2 wr) (fun i _ => T.s.length - (intOf i).toNat)
  case atStart => exact ⟨0, rfl, Nat.zero_le _, Below.refl _ _⟩
  case round =>
    obtain ⟨k, rfl, hk, hb⟩ := hrel
    have HBB := Lib.hid hb; clear hb
    have g0 := (HBB.out.cell (p := ⟨w.heap.size, 1, none⟩) l2).trans n1
    have g1 := (HBB.out.cell (p := ⟨w1.heap.size, 1, none⟩) l3).trans m1
    by_cases hlt : k < T.s.length
    · obtain ⟨b, o, rfl, hbl, hsn⟩ := (HT.out.below HBB.out).s (by omega)
      obtain ⟨b', o', rfl, hbl', hsn'⟩ := (HT'.out.below HBB.out).s (by omega)
      have e0 := hsn.c0 k hlt
      have e1 := hsn.c1 k hlt
      have e2 := hsn.c2 k hlt
      have f0 := hsn'.c0 k hlt
      have f1 := hsn'.c1 k hlt
      have f2 := hsn'.c2 k hlt
      clear hsn hsn' n0 n1 n2 m0 m1 m2
      go_wp2
      go_quiet (fail)
      go_wp2
      go_roundw
      case rel => exact ⟨k + 1, by go_num, hlt, bD HBB.out _⟩
      case measure => simp [intOf]; omega
    · have g2 := (HBB.out.cell (p := ⟨w.heap.size, 2, none⟩) l2).trans n2
      have g3 := (HBB.out.cell (p := ⟨w1.heap.size, 2, none⟩) l3).trans m2
      go_wp2
      obtain ⟨wa, rfl⟩ : ∃ wa, wa = wr := ⟨_, rfl⟩
      clear hk hlt g0 g1 g2 g3
      go_loopw [6] (fun i wr => ∃ k : Nat, i = .int .i64 k ∧ k ≤ T.r.length ∧ Below w2.heap.size w2 wr) (fun i _ => T.r.length - (intOf i).toNat)
      case atStart => exact ⟨0, rfl, Nat.zero_le _, HBB.out⟩
      case round =>
        clear HBB
        obtain ⟨k, rfl, hk, hb⟩ := hrel
        have HBB := Lib.hid hb; clear hb
        have g0 := (HBB.out.cell (p := ⟨w.heap.size, 2, none⟩) l2).trans n2
        have g1 := (HBB.out.cell (p := ⟨w1.heap.size, 2, none⟩) l3).trans m2
        by_cases hlt : k < T.r.length
        · obtain ⟨b, o, rfl, hbl, hsn⟩ := (HT.out.below HBB.out).r (by omega)
          obtain ⟨b', o', rfl, hbl', hsn'⟩ := (HT'.out.below HBB.out).r (by omega)
          have e0 := hsn.c0 k hlt
          have e1 := hsn.c1 k hlt
          have e2 := hsn.c2 k hlt
          have e3 := hsn.c3 k hlt
          have f0 := hsn'.c0 k hlt
          have f1 := hsn'.c1 k hlt
          have f2 := hsn'.c2 k hlt
          have f3 := hsn'.c3 k hlt
          clear hsn hsn' n0 n1 n2 m0 m1 m2
          go_wp2
          go_quiet (fail)
          go_wp2
          go_roundw
          case rel => exact ⟨k + 1, by go_num, hlt, bD HBB.out _⟩
          case measure => simp [intOf]; omega
        · go_wp2
          go_ret
          exact ⟨rfl, bT HB.out HBB.out⟩
end Go.Proofs.Ytmfbfcknnjbabaa
