/- The contracts of slices.Index, slices.Contains, ascends and differs. Lists that grow in place, and what an iterator of them hands out. -/
import Derived.Test.YtmfbfcknnjbabaaB4
import Derived.Test.YtmfbfcknnjbabaaD1
import Derived.Deep.DeepAppendRoom
import Derived.Maps.AppendAt
import Derived.Deep.AppendLies
import Derived.Maps.OwnIn
set_option linter.unusedSimpArgs false
set_option linter.unusedVariables false
namespace Go.Proofs.Ytmfbfcknnjbabaa
open Go.RowKit

def Ints (w : World) (p : Option Addr) (l : List Int) : Prop := 0 < l.length → ∃ b o, p = some ⟨b, o, none⟩ ∧ IntsAt w w.heap.size b o l

def idx (l : List Int) (x : Int) : Int := match l.findIdx? (· == x) with
  | some i => (i : Int)
  | none => -1
def hasB (l : List Int) (x : Int) : Bool := l.contains x
def NoneTo (l : List Int) (x : Int) (k : Nat) : Prop := ∀ j, (h : j < l.length) → j < k → ¬ l[j] = x

/-- slices.Index -/
theorem index_any (l : List Int) (p : Option Addr) (c : Nat) (x : Int) (w : World) (hl : l.length ≤ 1000000) (h : Ints w p l) :
    Calls Try.prog 93 #[.slice p l.length c, .int .i64 x] w fun e w' => ∃ i : Int, e = .returned (.int .i64 i) ∧ (decide (0 ≤ i) = hasB l x) ∧ Below w.heap.size w w' := by
  have H := Lib.hid h; clear h
  go_enter Try.func93, Try.ntmps93
  go_wp2
  go_loopw [8] (fun i wr => ∃ k : Nat, i = .int .i64 k ∧ k ≤ l.length ∧ NoneTo l x k ∧ wr = w) (fun i _ => l.length - (intOf i).toNat)
  case atStart => exact ⟨0, rfl, Nat.zero_le _, fun j _ h => by omega, rfl⟩
  case round =>
    obtain ⟨k, rfl, hk, hn, rfl⟩ := hrel
    have HN := Lib.hid hn; clear hn
    by_cases hlt : k < l.length
    · obtain ⟨b, o, rfl, hi⟩ := H.out (by omega)
      have e0 := hi.cell k hlt
      clear hi
      by_cases hx : x = l[k]
      · have hb : (x == l[k]) = true := by simp [hx]
        have HX := Lib.hid hx; clear hx
        go_wp2
        go_ret
        exact ⟨_, rfl, by simp only [hasB]; rw [HX.out]; simp [List.getElem_mem hlt], Below.refl _ _⟩
      · have hb : (x == l[k]) = false := by simp [hx]
        have HX := Lib.hid hx; clear hx
        go_wp2
        go_roundw
        case rel => exact ⟨k + 1, by go_num, hlt, fun j hj hjk => by
          by_cases e : j = k
          · subst e; exact fun h => HX.out h.symm
          · exact HN.out j hj (by omega), by first | rfl | trivial⟩
        case measure => simp [intOf]; omega
    · go_wp2
      go_ret
      refine ⟨_, rfl, ?_, Below.refl _ _⟩
      have : hasB l x = false := by
        simp only [hasB, List.contains_eq_mem, decide_eq_false_iff_not]
        intro hm
        obtain ⟨j, hj, e⟩ := List.getElem_of_mem hm
        exact HN.out j hj (by omega) e
      rw [this]; rfl

/-- slices.Contains -/
theorem contains_any (l : List Int) (p : Option Addr) (c : Nat) (x : Int) (w : World) (hl : l.length ≤ 1000000) (h : Ints w p l) :
    Calls Try.prog 68 #[.slice p l.length c, .int .i64 x] w fun e w' => e = .returned (.bool (hasB l x)) ∧ Below w.heap.size w w' := by
  have hi := index_any l p c x w hl h
  have HI := Lib.hid hi; clear hi h
  go_enter Try.func68, Try.ntmps68
  go_wp2_with (go_at_call 93; refine HI.out.mono ?_; rintro e w1 ⟨i, rfl, hd, hb⟩; have HD := Lib.hid hd; have HB := Lib.hid hb; clear hd hb)
  go_ret
  exact ⟨ret_b HD.out, HB.out⟩

def ascB (l : List Int) (x : Int) : Bool := decide (l.length = 0) || decide (l[l.length - 1]?.getD 0 < x)
theorem ascends_any (l : List Int) (p : Option Addr) (c : Nat) (x : Int) (w : World) (hl : l.length ≤ 1000000) (h : Ints w p l) :
    Calls Try.prog 66 #[.slice p l.length c, .int .i64 x] w fun e w' => e = .returned (.bool (ascB l x)) ∧ Below w.heap.size w w' := by
  by_cases h0 : l.length = 0
  · have hb : ((l.length : Int) == 0) = true := by simp [h0]
    have HE : Hid (ascB l x = true) := by show _ = _; simp [ascB, h0]
    clear h0 h
    go_enter Try.func66, Try.ntmps66
    go_wp2
    go_ret
    exact ⟨ret_b HE.out.symm, Below.refl _ _⟩
  · obtain ⟨b, o, rfl, hi⟩ := h (by omega)
    have hb : ((l.length : Int) == 0) = false := by rw [beq_eq_false_iff_ne]; omega
    obtain ⟨m, hm⟩ : ∃ m, l.length = m + 1 := ⟨l.length - 1, by omega⟩
    have e0 := hi.cell m (by omega)
    obtain ⟨y, hy⟩ : ∃ y, l[m]?.getD 0 = y := ⟨_, rfl⟩
    rw [hy] at e0
    have HE : Hid (ascB l x = decide (y < x)) := by show _ = _; unfold ascB; rw [hm, show m + 1 - 1 = m from rfl, hy]; simp
    rw [hm] at hb hl ⊢
    clear h0 h hi hm hy
    go_enter Try.func66, Try.ntmps66
    go_wp2
    go_ret
    exact ⟨ret_b HE.out.symm, Below.refl _ _⟩

theorem differs_any (l : List Int) (p : Option Addr) (c : Nat) (x : Int) (w : World) (hl : l.length ≤ 1000000) (h : Ints w p l) :
    Calls Try.prog 81 #[.slice p l.length c, .int .i64 x] w fun e w' => e = .returned (.bool (!hasB l x)) ∧ Below w.heap.size w w' := by
  have hi := contains_any l p c x w hl h
  have HI := Lib.hid hi; clear hi h
  go_enter Try.func81, Try.ntmps81
  go_wp2_with (go_at_call 68; refine HI.out.mono ?_; rintro e w1 ⟨rfl, hb⟩; have HB := Lib.hid hb; clear hb)
  go_ret
  exact ⟨rfl, HB.out⟩
end Go.Proofs.Ytmfbfcknnjbabaa

namespace Go.Proofs.Ytmfbfcknnjbabaa
open Go.RowKit Go.Shelf
attribute [local go_sem] Oper.semAt_some

theorem room_none {F : Fence} (hd : F.depth = none) (k : Nat) : F.room k := fun d h => by rw [hd] at h; cases h
theorem roundAny {F : Fence} (hd : F.depth = none) {m m' : Nat} {P : Program} {l : Nat} {f : FuncId} {tmps : Array Value} {assign body : Code} {w : World} {R : Ending → World → Prop}
    (h : RoundIn F m P l f tmps assign body w R) : RoundIn F m' P l f tmps assign body w R := ⟨h.1, fun c cs _ => h.2 c cs (room_none hd _)⟩
theorem yieldAny {F : Fence} (hd : F.depth = none) {m : Nat} (m' : Nat) {P : Program} {l : Nat} {args : Array Value} {W : World} {R : Ending → World → Prop} (h : YieldAt F m P l args W R) : YieldAt F m' P l args W R := by
  obtain ⟨fn, tmps, assign, body, hy, hR⟩ := h
  exact ⟨fn, tmps, assign, body, hy, roundAny hd hR⟩

/-- block g is a row of n ints, the first of which are l -/
def RowG (W : World) (g n : Nat) (l : List Int) : Prop := W.ownsRow 0 3 1 (.slice (some ⟨g, 0, none⟩) l.length n) l.length (l.map (Value.int .i64))
theorem RowG.lt {W : World} {g n : Nat} {l : List Int} (h : RowG W g n l) : g < W.heap.size := (World.ownsRow.lt h g rfl).2
theorem RowG.ints {W : World} {g n : Nat} {l : List Int} (h : RowG W g n l) : IntsAt W W.heap.size g 0 l := ⟨h.lt, fun k hk => by
  have := World.ownsRow.cellAt h k (by omega)
  simpa [hk] using this⟩
theorem RowG.same {W W' : World} {g n : Nat} {l : List Int} (h : RowG W g n l) (hb : W'.heap[g]? = W.heap[g]?) : RowG W' g n l := by
  refine ⟨h.1, ?_⟩
  rcases h.2 with ⟨h0, _⟩ | ⟨g', cap, cur, e, r⟩
  · cases h0
  · have eg : g' = g := by cases e; rfl
    subst eg
    exact .inr ⟨g', cap, cur, e, r.1, hb.trans r.2.1, r.2.2⟩
theorem RowG.init {W : World} {g n : Nat} {l : List Int} {x : Int} (h : RowG W g n (l ++ [x])) : RowG W g n l := by
  refine ⟨by simp, ?_⟩
  rcases h.2 with ⟨h0, _⟩ | ⟨g', cap, cur, e, hb, hg, hl, hm, hs, ht⟩
  · cases h0
  · simp only [List.length_append, List.length_cons, List.length_nil, Nat.zero_add, Value.slice.injEq] at e hl ht
    refine .inr ⟨g', cap, cur, by rw [e.1, e.2.2], hb, hg, by omega, hm, hs, ?_⟩
    have h2 := congrArg (List.take l.length) ht
    rw [List.take_take, Nat.min_eq_left (by omega)] at h2
    rw [Nat.mul_one, h2]
    simp [List.map_append, List.take_append]
theorem RowG.le {W : World} {g n : Nat} {l : List Int} (h : RowG W g n l) : l.length ≤ n := by
  rcases h.2 with ⟨h0, _⟩ | ⟨g', cap, cur, e, _, _, hl, _⟩
  · cases h0
  · cases e; exact hl

/-- all lists of d numbers more behind some, each of which fits -/
def ext (ok : List Int → Int → Bool) (many : Nat) : Nat → List Int → List (List Int)
  | 0, pre => [pre]
  | d + 1, pre => (List.range many).flatMap fun (k : Nat) => if ok pre k then ext ok many d (pre ++ [(k : Int)]) else []
def extTo (ok : List Int → Int → Bool) (d : Nat) (many : Nat) (pre : List Int) (k : Nat) : List (List Int) :=
  (List.range k).flatMap fun (k : Nat) => if ok pre k then ext ok many d (pre ++ [(k : Int)]) else []
theorem extTo_succ (ok : List Int → Int → Bool) (d many : Nat) (pre : List Int) (k : Nat) : extTo ok d many pre (k + 1) = extTo ok d many pre k ++ if ok pre k then ext ok many d (pre ++ [(k : Int)]) else [] := by
  simp [extTo, List.range_succ]
theorem extTo_prefix (ok : List Int → Int → Bool) (d many : Nat) (pre : List Int) : ∀ {j k : Nat}, j ≤ k → extTo ok d many pre j <+: extTo ok d many pre k := by
  intro j k h
  induction k with
  | zero => obtain rfl : j = 0 := by omega
            exact List.prefix_refl _
  | succ k ih =>
    by_cases e : j = k + 1
    · subst e; exact List.prefix_refl _
    · rw [extTo_succ]; exact (ih (by omega)).trans (List.prefix_append _ _)

abbrev Got := Nat × Nat × List Int
def got (g n : Nat) (l : List (List Int)) : List Got := l.map fun x => (g, n, x)
theorem got_append (g n : Nat) (a b : List (List Int)) : got g n (a ++ b) = got g n a ++ got g n b := by simp [got]
def encG (x : Got) : Array Value := #[.slice (some ⟨x.1, 0, none⟩) x.2.2.length x.2.1]
def PG (x : Got) (A : World) : Prop := x.2.1 = x.2.2.length ∧ x.2.2.length ≤ 1000 ∧ IntsAt A A.heap.size x.1 0 x.2.2

theorem wpListIn_append_spare {F : Fence} {n : Nat} {P : Program} (w : World) {ops : Array Oper} {rest : List Oper} {o : Oper} {a : Act} {Q : Exit → Act → World → Prop}
    (hgd : Region.wanted o (yielded ops a.tmps) = true) (s x : Operand) (t : TypeId)
    (ho : o.op = .call { callee := .builtin .append, args := #[s, x], argTypes := #[t, t] })
    (base : Nat) (e : TypeId) (i : TypeInfo) (size : Nat) (ht : P.underlying t = some (.slice e)) (hi : P.info? e = some i) (hsize : i.size = size)
    (g k cap : Nat) (xs : List Value) (hs : a.eval s = .slice (some ⟨g, 0, none⟩) k cap) (hown : w.ownsRow base e size (.slice (some ⟨g, 0, none⟩) k cap) k xs)
    (ad : Addr) (m c : Nat) (news : List Value) (hx : a.eval x = .slice (some ad) m c) (hl : news.length = m * size) (hnews : ∀ j u, news[j]? = some u → w.cell? (ad.add j) = some u) (h1 : ∀ u ∈ news, u.oneCell' = true)
    (hroom : k + m ≤ cap)
    (h : ∀ w', w'.ownsRow base e size (.slice (some ⟨g, 0, none⟩) (k + m) cap) (k + m) (xs ++ news) → w.grownBy w' (some g) → wpListIn F n P ops Q rest (a.put o.dst (.slice (some ⟨g, 0, none⟩) (k + m) cap)) w') : wpListIn F n P ops Q (o :: rest) a w := by
  obtain ⟨w', hr, h2, h3⟩ := run_append_own_spare (P := P) w base t o.type e i size ht hi hsize g k cap xs hown ad m c news hl hnews h1 hroom
  refine wpListIn_step fun K hK => ?_
  rw [if_pos hgd]
  unfold Oper.wpIn
  refine ⟨?_, ?_⟩
  · simp [Oper.about, ho, resolve, Target.leads, Sem.run_pure]
  · rw [Oper.semAt_plain F _ _ (by rw [ho]; intro c hc'; cases hc')]
    simp [execOp, ho, resolve, invoke, builtin, hs, hx, hr, Result.andThen]
    exact hK _ _ (h w' h2 h3)
theorem info3d : (Try.prog.info? 3).map (fun i => (i.zero, i.size, i.bytes)) = some (some (.int .i64 0), 1, 8) := by kernel_rfl
/-- what a call, a new block and a store into row g leave of the blocks below B -/
theorem row_below {B g : Nat} {W w1 w2 : World} {o : Obj} (h1 : Below W.heap.size W w1) (h2 : (w1.alloc o).grownBy w2 (some g)) (hl : g < W.heap.size) (hg : B ≤ g) : Below B W w2 := by
  refine (h1.mono (by omega)).trans ⟨h2.os, h2.tape, h2.output, by have := h2.size; simp at this; omega, fun k hk => ?_⟩
  have hs := h1.size
  exact (h2.block k (by simp; omega) (by simp; omega)).trans (Below.heap_alloc _ _ _ (by omega))
end Go.Proofs.Ytmfbfcknnjbabaa
