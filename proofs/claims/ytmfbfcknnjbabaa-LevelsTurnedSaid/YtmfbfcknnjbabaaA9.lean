/- Copy once more, with what the copies own: so that they can be appended to. -/
import Derived.Test.YtmfbfcknnjbabaaG2
set_option linter.unusedSimpArgs false
set_option linter.unusedVariables false
namespace Go.Proofs.Ytmfbfcknnjbabaa
open Go.RowKit

theorem step_append_copyO {P : Program} {ops : Array Oper} {o : Oper} {a : Act} {w : World} {K : Act → World → Prop} {Q : Exit → Act → World → Prop} {E : Prop} (w0 : World) (base : Nat)
    (hg : o.guard = none) (s x : Operand) (t : TypeId) (hop : o.op = Op.call { callee := Callee.builtin Builtin.append, args := #[s, x], argTypes := #[t, t] })
    (e : TypeId) (i : TypeInfo) (z : Value) (size bytes : Nat) (h1 : P.underlying t = some (.slice e)) (h2 : P.info? e = some i) (h3 : i.zero = some z) (h4 : i.size = size) (h5 : i.bytes = bytes) (h6 : z.cells.size = size) (h7 : 0 < size)
    (g : Nat) (hs : a.eval s = .slice (some ⟨g, 0, none⟩) 0 0) (hlit : w.ownsRow base e size (.slice (some ⟨g, 0, none⟩) 0 0) 0 [])
    (ad : Option Addr) (m c : Nat) (hx : a.eval x = .slice ad m c) (xs : List Value) (hlen : xs.length = m * size) (hone : ∀ u ∈ xs, u.oneCell' = true)
    (hc : 0 < m → ∃ b o, ad = some ⟨b, o, none⟩ ∧ b < w0.heap.size ∧ ∀ j u, xs[j]? = some u → w0.cell? ⟨b, o + j, none⟩ = some u)
    (b1 : m ≤ maxLen) (b2 : m * bytes ≤ 140737488355328) (hb : Below w0.heap.size w0 w) (hbase : base ≤ w.heap.size)
    (hK : ∀ y c' w', Below w0.heap.size w0 w' → Below w.heap.size w w' → w'.ownsRow base e size (.slice y m c') m xs → K (a.put o.dst (.slice y m c')) w') :
    if Region.wanted o (yielded ops a.tmps) = true then Oper.wp P o a w K Q else E := by
  by_cases hm : 0 < m
  · obtain ⟨b, of, rfl, hbl, hcell⟩ := hc hm
    have hadd : ∀ (x o j : Nat), (⟨x, o, none⟩ : Addr).add j = ⟨x, o + j, none⟩ := fun x o j => by unfold Addr.add; split <;> simp_all
    refine step_append_grows hg s x t hop e i z size bytes h1 h2 h3 h4 h5 h6 h7 (some ⟨g, 0, none⟩) 0 0 [] hs (by simp) (by simp) (by simp) ⟨b, of, none⟩ m c xs hx hlen ?_ hone (by omega) (by omega) (by rw [Nat.zero_add]; exact b2) ?_
    · intro j u hu
      rw [hadd]
      exact (hb.cell hbl).trans (hcell j u hu)
    · intro v' w' hown hgrow
      rw [Nat.zero_add, List.nil_append] at hown
      obtain ⟨y, c', rfl, _⟩ := own_form hown
      have hbw : Below w.heap.size w w' := ⟨hgrow.os, hgrow.tape, hgrow.output, hgrow.size, fun k hk => hgrow.block k hk (by simp)⟩
      exact hK y c' w' (bT hb hbw) hbw (own_base hown hbase)
  · obtain rfl : m = 0 := by omega
    obtain rfl : xs = [] := List.eq_nil_of_length_eq_zero (by simpa using hlen)
    have hw : Region.wanted o (yielded ops a.tmps) = true := by simp [Region.wanted, hg]
    rw [if_pos hw]
    have hrun : (Builtin.append_ #[t, t] o.type #[.slice (some ⟨g, 0, none⟩) 0 0, .slice ad 0 c]).run P w = .ok (.slice (some ⟨g, 0, none⟩) 0 0) w := by
      cases ad <;> simp [Builtin.append_, run_underlying h1, sizeOf, typeInfo, h2, Builtin.lenOf, Builtin.firstCells, loadCells, loadCellsFrom, storeCells, Sem.run_bind]
    unfold Oper.wp
    simp [execOp, hop, resolve, invoke, builtin, hs, hx, hrun, Result.andThen]
    exact hK _ _ _ hb (Below.refl _ _) hlit

theorem lit_at {X : World} {base g : Nat} {e : TypeId} {size : Nat} (hg : X.heap.size = g) (hb : base ≤ g) : (X.alloc (.cells #[] e)).ownsRow base e size (.slice (some ⟨g, 0, none⟩) 0 0) 0 [] := by
  subst hg; exact World.ownsRow_lit X #[] 0 hb (Nat.zero_le _) (by simp)
def flatS (l : List Snd) : List Value := l.flatMap fun x => [.int .i64 x.well, .int .i64 x.low, .int .i64 x.high]
def flatR (l : List Slp) : List Value := l.flatMap fun x => [.int .i64 x.a, .int .i64 x.b, .int .i64 x.low, .int .i64 x.high]
theorem flatS_len (l : List Snd) : (flatS l).length = l.length * 3 := by induction l <;> simp_all [flatS]; omega
theorem flatR_len (l : List Slp) : (flatR l).length = l.length * 4 := by induction l <;> simp_all [flatR]; omega
theorem flatS_snoc (l : List Snd) (x : Snd) : flatS (l ++ [x]) = flatS l ++ [.int .i64 x.well, .int .i64 x.low, .int .i64 x.high] := by simp [flatS]
theorem flatR_snoc (l : List Slp) (x : Slp) : flatR (l ++ [x]) = flatR l ++ [.int .i64 x.a, .int .i64 x.b, .int .i64 x.low, .int .i64 x.high] := by simp [flatR]
theorem flatS_one (l : List Snd) : ∀ u ∈ flatS l, u.oneCell' = true := by
  intro u hu
  simp only [flatS, List.mem_flatMap] at hu
  obtain ⟨x, _, h⟩ := hu
  simp at h
  rcases h with rfl | rfl | rfl <;> rfl
theorem flatR_one (l : List Slp) : ∀ u ∈ flatR l, u.oneCell' = true := by
  intro u hu
  simp only [flatR, List.mem_flatMap] at hu
  obtain ⟨x, _, h⟩ := hu
  simp at h
  rcases h with rfl | rfl | rfl | rfl <;> rfl
theorem flatS_at : ∀ (l : List Snd) (k : Nat) (h : k < l.length), (flatS l)[k * 3]? = some (.int .i64 l[k].well) ∧ (flatS l)[k * 3 + 1]? = some (.int .i64 l[k].low) ∧ (flatS l)[k * 3 + 2]? = some (.int .i64 l[k].high)
  | x :: l, 0, _ => by simp [flatS]
  | x :: l, k + 1, h => by
    have ih := flatS_at l k (by simpa using h)
    have e : flatS (x :: l) = .int .i64 x.well :: .int .i64 x.low :: .int .i64 x.high :: flatS l := by simp [flatS]
    rw [e, show (k + 1) * 3 = k * 3 + 1 + 1 + 1 by omega]
    simpa using ih
theorem flatR_at : ∀ (l : List Slp) (k : Nat) (h : k < l.length), (flatR l)[k * 4]? = some (.int .i64 l[k].a) ∧ (flatR l)[k * 4 + 1]? = some (.int .i64 l[k].b) ∧ (flatR l)[k * 4 + 2]? = some (.int .i64 l[k].low) ∧ (flatR l)[k * 4 + 3]? = some (.int .i64 l[k].high)
  | x :: l, 0, _ => by simp [flatR]
  | x :: l, k + 1, h => by
    have ih := flatR_at l k (by simpa using h)
    have e : flatR (x :: l) = .int .i64 x.a :: .int .i64 x.b :: .int .i64 x.low :: .int .i64 x.high :: flatR l := by simp [flatR]
    rw [e, show (k + 1) * 4 = k * 4 + 1 + 1 + 1 + 1 by omega]
    simpa using ih
theorem SndAt.flat {w : World} {b o : Nat} {l : List Snd} (h : SndAt w b o l) : ∀ j u, (flatS l)[j]? = some u → w.cell? ⟨b, o + j, none⟩ = some u := fun j u hu => by
  have hj : j < l.length * 3 := by rw [← flatS_len]; exact (List.getElem?_eq_some_iff.1 hu).1
  have hk : j / 3 < l.length := by omega
  obtain ⟨a0, a1, a2⟩ := flatS_at l (j / 3) hk
  have : j = j / 3 * 3 ∨ j = j / 3 * 3 + 1 ∨ j = j / 3 * 3 + 2 := by omega
  rcases this with e | e | e
  · rw [e] at hu ⊢; rw [a0] at hu; rw [← hu]; exact h.c0 _ hk
  · rw [e] at hu ⊢; rw [a1] at hu; rw [← hu, ← Nat.add_assoc]; exact h.c1 _ hk
  · rw [e] at hu ⊢; rw [a2] at hu; rw [← hu, ← Nat.add_assoc]; exact h.c2 _ hk
theorem SlpAt.flat {w : World} {b o : Nat} {l : List Slp} (h : SlpAt w b o l) : ∀ j u, (flatR l)[j]? = some u → w.cell? ⟨b, o + j, none⟩ = some u := fun j u hu => by
  have hj : j < l.length * 4 := by rw [← flatR_len]; exact (List.getElem?_eq_some_iff.1 hu).1
  have hk : j / 4 < l.length := by omega
  obtain ⟨a0, a1, a2, a3⟩ := flatR_at l (j / 4) hk
  have : j = j / 4 * 4 ∨ j = j / 4 * 4 + 1 ∨ j = j / 4 * 4 + 2 ∨ j = j / 4 * 4 + 3 := by omega
  rcases this with e | e | e | e
  · rw [e] at hu ⊢; rw [a0] at hu; rw [← hu]; exact h.c0 _ hk
  · rw [e] at hu ⊢; rw [a1] at hu; rw [← hu, ← Nat.add_assoc]; exact h.c1 _ hk
  · rw [e] at hu ⊢; rw [a2] at hu; rw [← hu, ← Nat.add_assoc]; exact h.c2 _ hk
  · rw [e] at hu ⊢; rw [a3] at hu; rw [← hu, ← Nat.add_assoc]; exact h.c3 _ hk
/-- a town in memory that can be appended to: its slices own their rows from block base on -/
structure TownOwn (w : World) (base : Nat) (T : Town) (p q : Option Addr) (c d : Nat) : Prop where
  s : w.ownsRow base 62 3 (.slice p T.s.length c) T.s.length (flatS T.s)
  r : w.ownsRow base 58 4 (.slice q T.r.length d) T.r.length (flatR T.r)
theorem sndAt_own {w : World} {base : Nat} {l : List Snd} {p : Option Addr} {c : Nat} (h : w.ownsRow base 62 3 (.slice p l.length c) l.length (flatS l)) : 0 < l.length → ∃ b o, p = some ⟨b, o, none⟩ ∧ b < w.heap.size ∧ SndAt w b o l := fun h0 => by
  obtain ⟨p', c', e, hc⟩ := own_form h
  simp only [Value.slice.injEq] at e
  obtain ⟨g, e2, _, hl, hcell⟩ := hc h0
  refine ⟨g, 0, by rw [e.1, e2], hl, ⟨fun k hk => ?_, fun k hk => ?_, fun k hk => ?_⟩⟩
  · rw [Nat.zero_add, hcell _ (by omega)]; exact (flatS_at l k hk).1
  · rw [Nat.zero_add, hcell _ (by omega)]; exact (flatS_at l k hk).2.1
  · rw [Nat.zero_add, hcell _ (by omega)]; exact (flatS_at l k hk).2.2
theorem slpAt_own {w : World} {base : Nat} {l : List Slp} {p : Option Addr} {c : Nat} (h : w.ownsRow base 58 4 (.slice p l.length c) l.length (flatR l)) : 0 < l.length → ∃ b o, p = some ⟨b, o, none⟩ ∧ b < w.heap.size ∧ SlpAt w b o l := fun h0 => by
  obtain ⟨p', c', e, hc⟩ := own_form h
  simp only [Value.slice.injEq] at e
  obtain ⟨g, e2, _, hl, hcell⟩ := hc h0
  refine ⟨g, 0, by rw [e.1, e2], hl, ⟨fun k hk => ?_, fun k hk => ?_, fun k hk => ?_, fun k hk => ?_⟩⟩
  · rw [Nat.zero_add, hcell _ (by omega)]; exact (flatR_at l k hk).1
  · rw [Nat.zero_add, hcell _ (by omega)]; exact (flatR_at l k hk).2.1
  · rw [Nat.zero_add, hcell _ (by omega)]; exact (flatR_at l k hk).2.2.1
  · rw [Nat.zero_add, hcell _ (by omega)]; exact (flatR_at l k hk).2.2.2
theorem TownOwn.town {w : World} {base : Nat} {T : Town} {p q : Option Addr} {c d : Nat} (h : TownOwn w base T p q c d) : TownIn w w.heap.size T p q := ⟨sndAt_own h.s, slpAt_own h.r⟩
theorem TownOwn.below {w w' : World} {base : Nat} {T : Town} {p q : Option Addr} {c d : Nat} (h : TownOwn w base T p q c d) (hb : Below w.heap.size w w') : TownOwn w' base T p q c d := ⟨own_below h.s hb, own_below h.r hb⟩
theorem TownOwn.mono {w : World} {base base' : Nat} {T : Town} {p q : Option Addr} {c d : Nat} (h : TownOwn w base T p q c d) (hb : base' ≤ base) : TownOwn w base' T p q c d := ⟨own_base h.s hb, own_base h.r hb⟩
theorem TownOwn.set {w : World} {base b : Nat} {u : Value} {T : Town} {p q : Option Addr} {c d o : Nat} (h : TownOwn w base T p q c d) (hb : b < base) : TownOwn (w.setCell ⟨b, o, none⟩ u) base T p q c d := by
  have g : w.grownBy (w.setCell ⟨b, o, none⟩ u) (some b) := ⟨rfl, rfl, rfl, by simp [World.setCell], fun i hi hne => Below.heap_setCell w _ u i (by simpa [eq_comm] using hne)⟩
  refine ⟨h.s.kept g ?_, h.r.kept g ?_⟩
  · cases hv : (Value.slice p T.s.length c).ownBlock with
    | none => exact .inl rfl
    | some k => exact .inr (by have := (h.s.lt k hv).1; simp; omega)
  · cases hv : (Value.slice q T.r.length d).ownBlock with
    | none => exact .inl rfl
    | some k => exact .inr (by have := (h.r.lt k hv).1; simp; omega)

set_option maxRecDepth 100000 in
set_option maxHeartbeats 1000000 in
theorem copy_own (T : Town) (p q : Option Addr) (c d : Nat) (w : World) (hs : T.s.length ≤ 1000) (hr : T.r.length ≤ 1000) (ht : TownIn w w.heap.size T p q) :
    Calls Try.prog 17 #[.agg #[.int .i64 T.W, .slice p T.s.length c, .slice q T.r.length d]] w fun e w' => ∃ p' c' q' d', e = .returned (.agg #[.int .i64 T.W, .slice p' T.s.length c', .slice q' T.r.length d']) ∧ Below w.heap.size w w' ∧ TownOwn w' (w.heap.size + 2) T p' q' c' d' := by
  have HT := Lib.hid ht
  have hsS : 0 < T.s.length → ∃ b o, p = some ⟨b, o, none⟩ ∧ b < w.heap.size ∧ ∀ j u, (flatS T.s)[j]? = some u → w.cell? ⟨b, o + j, none⟩ = some u := fun h => by
    obtain ⟨b, o, e, hl, hsn⟩ := ht.s h
    exact ⟨b, o, e, hl, hsn.flat⟩
  have hsR : 0 < T.r.length → ∃ b o, q = some ⟨b, o, none⟩ ∧ b < w.heap.size ∧ ∀ j u, (flatR T.r)[j]? = some u → w.cell? ⟨b, o + j, none⟩ = some u := fun h => by
    obtain ⟨b, o, e, hl, hsn⟩ := ht.r h
    exact ⟨b, o, e, hl, hsn.flat⟩
  have HSS := Lib.hid hsS; have HSR := Lib.hid hsR
  clear ht hsS hsR
  obtain ⟨i3, hi3, hz3, hz3', hz3''⟩ := info_parts info62
  obtain ⟨i4, hi4, hz4, hz4', hz4''⟩ := info_parts info58
  have s1 : T.s.length ≤ maxLen := by unfold maxLen; omega
  have s2 : T.r.length ≤ maxLen := by unfold maxLen; omega
  have S1 := Lib.hid s1; have S2 := Lib.hid s2; clear s1 s2
  have I3 := Lib.hid hi3; have Z3 := Lib.hid hz3; have Z3' := Lib.hid hz3'; have Z3'' := Lib.hid hz3''; clear hi3 hz3 hz3' hz3''
  have I4 := Lib.hid hi4; have Z4 := Lib.hid hz4; have Z4' := Lib.hid hz4'; have Z4'' := Lib.hid hz4''; clear hi4 hz4 hz4' hz4''
  go_enter Try.func17, Try.ntmps17
  go_wp2
  go_region_held3 (fun w' => w'.cell? ⟨w.heap.size, 0, none⟩ = some (.int .i64 T.W) ∧ w'.cell? ⟨w.heap.size, 1, none⟩ = some (.slice p T.s.length c) ∧ w'.cell? ⟨w.heap.size, 2, none⟩ = some (.slice q T.r.length d))
    (first
      | go_keep
      | (go_split_ands
         refine ⟨?_, ?_, ?_⟩ <;> (rw [Below.cell (by assumption) (by simp; try omega)]; assumption)))
    (first
    | (refine step_append_copyO w (w.heap.size + 2) rfl (.tmp 5) (.tmp 7) 22 rfl 62 i3 _ 3 24 Try.underlying22 I3.out Z3.out Z3'.out Z3''.out rfl (by decide) _ (by simp [Act.eval, Act.put]; rfl) (by repeat (first | exact lit_at (by simp) (by omega) | refine World.ownsRow.alloc ?_ _ | refine ownd ?_ | refine own_below ?_ (by assumption))) p T.s.length c (by simp [Act.eval, Act.put]) (flatS T.s) (flatS_len _) (flatS_one _) HSS.out S1.out (by omega) (by repeat (first | assumption | exact Below.refl _ _ | refine bA ?_ _ | refine bd ?_)) (by (try simp); try omega) ?_; intro y1 c1 w1 hB1 hb1 ho1; go_must (have j0 : w1.cell? ⟨w.heap.size + 1, 0, none⟩ = some (.int .i64 0) := (hb1.cell (by simp; try omega)).trans (by go_simp); have j1 : w1.cell? ⟨w.heap.size + 1, 1, none⟩ = some (.slice none 0 0) := (hb1.cell (by simp; try omega)).trans (by go_simp); have j2 : w1.cell? ⟨w.heap.size + 1, 2, none⟩ = some (.slice none 0 0) := (hb1.cell (by simp; try omega)).trans (by go_simp); have f0 : ∀ i, w1.frozen? ⟨w.heap.size + 1, i, none⟩ = false := fun i => (hb1.frozen (by simp; try omega)).trans (by go_simp); have z : w.heap.size + 1 < w1.heap.size := (by have t := hb1.size; (try simp at t); omega); have z' : w.heap.size < w1.heap.size := (by omega); have HO1 := Lib.hid ho1; clear ho1))
    | (refine step_append_copyO w (w.heap.size + 2) rfl (.tmp 9) (.tmp 11) 23 rfl 58 i4 _ 4 32 Try.underlying23 I4.out Z4.out Z4'.out Z4''.out rfl (by decide) _ (by simp [Act.eval, Act.put]; rfl) (by repeat (first | exact lit_at (by simp) (by omega) | refine World.ownsRow.alloc ?_ _ | refine ownd ?_ | refine own_below ?_ (by assumption))) q T.r.length d (by simp [Act.eval, Act.put]) (flatR T.r) (flatR_len _) (flatR_one _) HSR.out S2.out (by omega) (by repeat (first | assumption | exact Below.refl _ _ | refine bA ?_ _ | refine bd ?_)) (by (try simp); try omega) ?_; intro y2 c2 w2 hB2 hb2 ho2; go_must (have j0 : w2.cell? ⟨w.heap.size + 1, 0, none⟩ = some (.int .i64 0) := (hb2.cell (by simp; try omega)).trans (by go_simp); have j1 : w2.cell? ⟨w.heap.size + 1, 1, none⟩ = some (.slice none 0 0) := (hb2.cell (by simp; try omega)).trans (by go_simp); have j2 : w2.cell? ⟨w.heap.size + 1, 2, none⟩ = some (.slice none 0 0) := (hb2.cell (by simp; try omega)).trans (by go_simp); have f0 : ∀ i, w2.frozen? ⟨w.heap.size + 1, i, none⟩ = false := fun i => (hb2.frozen (by simp; try omega)).trans (by go_simp); have z : w.heap.size + 1 < w2.heap.size := (by have t := hb2.size; (try simp at t); omega); have z' : w.heap.size < w2.heap.size := (by omega); have HO2 := Lib.hid ho2; clear ho2)))
  all_goals
    have hto : TownOwn w2 (w.heap.size + 2) T y1 y2 c1 c2 := ⟨by first | exact own_below HO1.out hb2 | exact own_below (HO1.out.alloc _) hb2, HO2.out⟩
    have HTO := Lib.hid (((hto.set (o := 0) (u := .int .i64 T.W) (Nat.lt_succ_self (w.heap.size + 1))).set (o := 1) (u := .slice y1 T.s.length c1) (Nat.lt_succ_self (w.heap.size + 1))).set (o := 2) (u := .slice y2 T.r.length c2) (Nat.lt_succ_self (w.heap.size + 1)))
    clear HO1 HO2 hb1 hb2 hB1 hto
    go_wp2
    exact bodyPost_ret (v := .agg #[.int .i64 T.W, .slice y1 T.s.length c1, .slice y2 T.r.length c2]) (by simp [results, Try.results17, go_sem, j0, j1, j2]) rfl
      ⟨y1, c1, y2, c2, rfl, by repeat (first | assumption | refine bS ?_ (by simp) _), HTO.out⟩
end Go.Proofs.Ytmfbfcknnjbabaa
