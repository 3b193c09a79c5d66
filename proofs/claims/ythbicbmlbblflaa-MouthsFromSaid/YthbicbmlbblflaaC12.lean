/- Boxes of mouths: owned rows of numbers, Rising. -/
import Derived.Test.YthbicbmlbblflaaC11

import Derived.Test.YthbicbmlbblflaaM8

import Derived.Deep.RegionLawGrows

import Derived.Deep.DeepAppendRoom

set_option linter.unusedSimpArgs false

set_option linter.unusedVariables false

namespace Go.Proofs.Ythbicbmlbblflaa

open Go.RowKit

def row1 (f : Nat → Int) : Nat → List Value
  | 0 => []
  | k + 1 => row1 f k ++ [.int .i64 (f k)]
theorem row1_len (f : Nat → Int) : ∀ k, (row1 f k).length = k
  | 0 => rfl
  | k + 1 => by unfold row1; rw [List.length_append, row1_len f k]; rfl
theorem row1_at {f : Nat → Int} : ∀ {n k : Nat}, k < n → (row1 f n)[k]? = some (.int .i64 (f k))
  | 0, k, hk => absurd hk (Nat.not_lt_zero _)
  | n + 1, k, hk => by
    unfold row1
    have hl := row1_len f n
    rcases Nat.lt_succ_iff_lt_or_eq.1 hk with h1 | rfl
    · rw [List.getElem?_append_left (by omega)]
      exact row1_at h1
    · rw [List.getElem?_append_right (by omega), hl]
      simp
theorem lit_cells1 (w : World) (x : Value) (e : TypeId) : ∀ (j : Nat) (u : Value), [x][j]? = some u → (w.alloc (.cells #[x] e)).cell? ((⟨w.heap.size, 0, none⟩ : Addr).add j) = some u := fun j u h => by
  cases j with
  | zero =>
    simp only [List.getElem?_cons_zero, Option.some.injEq] at h
    subst h
    rw [add_at'']
    go_simp
  | succ j => simp at h
theorem num_own {w : World} {base : Nat} {v : Value} {n : Nat} {f : Nat → Int} (h : w.ownsRow base 3 1 v n (row1 f n)) : ∃ p c, v = .slice p n c ∧ NumIn w w.heap.size n f p := by
  obtain ⟨p, c, rfl, hf⟩ := own_form h
  refine ⟨p, c, rfl, fun h0 => ?_⟩
  obtain ⟨g, rfl, _, hl, hc, _⟩ := hf h0
  exact ⟨g, 0, rfl, hl, fun k hk => by rw [Nat.zero_add, hc k (by omega), row1_at hk]⟩

/-- an append to an owned row: the row's block is the same, or a new one -/
theorem wp_append_one {w : World} {P : Program} {o : Oper} {a : Act} {K : Act → World → Prop} {Q : Exit → Act → World → Prop} (hgd : o.guard = none) (s x : Operand) (t : TypeId)
    (ho : o.op = .call { callee := .builtin .append, args := #[s, x], argTypes := #[t, t] })
    (base : Nat) (e : TypeId) (i : TypeInfo) (z : Value) (size bytes : Nat) (ht : P.underlying t = some (.slice e)) (hi : P.info? e = some i) (hz : i.zero = some z)
    (hsize : i.size = size) (hby : i.bytes = bytes) (hzs : z.cells.size = size) (hsz : 0 < size)
    (v : Value) (n : Nat) (xs : List Value) (hs : a.eval s = v) (hown : w.ownsRow base e size v n xs)
    (ad : Addr) (m c : Nat) (news : List Value) (hx : a.eval x = .slice (some ad) m c) (hl : news.length = m * size) (hnews : ∀ j u, news[j]? = some u → w.cell? (ad.add j) = some u) (h1 : ∀ u ∈ news, u.oneCell' = true)
    (hm : 0 < m) (h63 : n + m ≤ maxLen) (hbytes : (n + m) * bytes ≤ 140737488355328) (hbase : base ≤ w.heap.size)
    (h : ∀ v' w', w'.ownsRow base e size v' (n + m) (xs ++ news) → w.grownBy w' v.ownBlock → (∀ g, v'.ownBlock = some g → v.ownBlock = some g ∨ w.heap.size ≤ g) → K (a.put o.dst v') w') : o.wp P a w K Q := by
  have hgrow : ∀ (ao : Option Addr) (cap : Nat), v = .slice ao n cap → (ao = none → n = 0 ∧ cap = 0) → (∀ b, ao = some b → ∀ j u, xs[j]? = some u → w.cell? (b.add j) = some u) → cap < n + m → o.wp P a w K Q := by
    intro ao cap hv hnone hold hfull
    have := step_append_grows (ops := #[]) (Q := Q) (E := False) hgd s x t ho e i z size bytes ht hi hz hsize hby hzs hsz ao n cap xs (by rw [hs, hv]) hnone hown.1 hold ad m c news hx hl hnews h1 hfull h63 hbytes (K := K) (w := w) fun v' w' ho' hg' => by
      refine h v' w' (own_base ho' hbase) ?_ fun g hg => .inr (ho'.lt g hg).1
      exact ⟨hg'.1, hg'.2, hg'.3, hg'.4, fun k hk _ => hg'.5 k hk (by simp)⟩
    rwa [if_pos (by simp [Region.wanted, hgd])] at this
  rcases hown.2 with ⟨hv, hn0⟩ | ⟨g, cap, cur, hv, hbg, hg, hnc, hcm, hcs, htake⟩
  · subst hn0
    have hx0 : xs = [] := List.eq_nil_of_length_eq_zero (by simpa using hown.1)
    exact hgrow none 0 hv (fun _ => ⟨rfl, rfl⟩) (fun b hb => by cases hb) (by omega)
  · by_cases hroom : n + m ≤ cap
    · subst hv
      exact wp_append_own_spare w s x t ho base e i size ht hi hsize g n cap xs hs hown ad m c news hx hl hnews h1 hroom fun w' h2 h3 => h _ w' h2 h3 fun g' hg' => .inl hg'
    · exact hgrow (some ⟨g, 0, none⟩) cap hv (fun h => by cases h) (fun b hb j u hu => by cases hb; exact hown.cells (g := g) (by rw [hv]; rfl) j u hu) (by omega)
set_option maxRecDepth 100000 in
set_option maxHeartbeats 4000000 in
theorem rising_x (L c n : Nat) (f : Nat → Int) (lp : Option Addr) (w : World) (x0 : Ext w) (hL : L ≤ maxLen) (hn : n ≤ 40) (hi : NumIn w w.heap.size L f lp) :
    Calls Try.prog 55 #[.slice lp L c, .int .i64 0, .int .i64 ((n : Int) - 1)] x0.v fun e w' => e = .returned (.bool (ris f n L)) ∧ Below w.heap.size w w' := by
  have HL : Hid (∀ x : Ext w, NumIn x.v x.v.heap.size L f lp) := fun x => hi.bel x.b
  clear hi
  go_enter Try.func55, Try.ntmps55
  go_wp2
  go_loopw [7] (fun i wr => ∃ k : Nat, i = .int .i64 (k : Int) ∧ k ≤ L ∧ ris f n k = true ∧ ∃ z : Ext w, wr = z.v) (fun i _ => L - (intOf i).toNat)
  case atStart => exact ⟨0, rfl, Nat.zero_le _, rfl, x0, rfl⟩
  case round =>
    obtain ⟨k, rfl, hk, hri, z, rfl⟩ := hrel
    have hkn := ris_len hri
    have HRI := Lib.hid hri; clear hri
    by_cases hlt : k < L
    · obtain ⟨b1, of1, rfl, _, _⟩ := (HL.out z) (by omega)
      have E0 : ∀ z : Ext w, z.v.cell? ⟨b1, of1 + k, none⟩ = some (.int .i64 (f k)) := fun z => ((HL.out z).cell hlt).2
      have hkm : (k : Int) < (L : Int) := by omega
      have hk40 : k ≤ 40 := by omega
      cases hw : within (f k) 0 ((n : Int) - 1) with
      | false =>
        have HF := Lib.hid (show ris f n L = false from allN_bad hlt (by unfold rs1; rw [hw]; rfl))
        have HWI := Lib.hid (show ∀ V : World, Calls Try.prog 52 #[.int .i64 (f k), .int .i64 0, .int .i64 ((n : Int) - 1)] V fun e w' => e = .returned (.bool false) ∧ V = w' from fun V => by
          have := within1_any (f k) 0 ((n : Int) - 1) V
          rw [hw] at this
          exact this)
        clear hw
        go_wp2
        refine quiet_e (by kernel_rfl) (by kernel_rfl) ?_
        repeat (first | go_big_quiet_step ((first | (go_at_call 52; exact quiet_s (HWI.out _)))) | quiet_step ((first | (go_at_call 52; exact quiet_s (HWI.out _)))))
        refine wpQuiet_nil ?_
        intro w6 hw6
        obtain ⟨y2, rfl⟩ := hw6
        go_wp2
        go_ret
        exact ⟨by rw [HF.out]; rfl, y2.b⟩
      | true =>
        have HWI := Lib.hid (show ∀ V : World, Calls Try.prog 52 #[.int .i64 (f k), .int .i64 0, .int .i64 ((n : Int) - 1)] V fun e w' => e = .returned (.bool true) ∧ V = w' from fun V => by
          have := within1_any (f k) 0 ((n : Int) - 1) V
          rw [hw] at this
          exact this)
        have HW := Lib.hid hw; clear hw
        rcases Nat.eq_zero_or_pos k with hk0 | hk0
        · have j0 : decide (0 < (k : Int)) = false := by simp; omega
          have j0n : decide (0 < k) = false := by simp; omega
          have j0m : ¬ 0 < k := by omega
          have HS := Lib.hid (show ris f n (k + 1) = true from allN_succ HRI.out (by unfold rs1; rw [HW.out]; simp [hk0]))
          clear hk0
          go_wp2
          refine quiet_e (by kernel_rfl) (by kernel_rfl) ?_
          repeat (first | go_big_quiet_step ((first | (go_at_call 52; exact quiet_s (HWI.out _)))) | quiet_step ((first | (go_at_call 52; exact quiet_s (HWI.out _)))))
          refine wpQuiet_nil ?_
          intro w6 hw6
          obtain ⟨y2, rfl⟩ := hw6
          go_wp2
          go_roundw
          case rel => exact ⟨k + 1, by go_num, hlt, HS.out, y2, rfl⟩
          case measure => first | (simp [intOf]; done) | (simp [intOf]; omega)
        · obtain ⟨j, rfl⟩ : ∃ j, k = j + 1 := ⟨k - 1, by omega⟩
          have E1 : ∀ z : Ext w, z.v.cell? ⟨b1, of1 + j, none⟩ = some (.int .i64 (f j)) := fun z => ((HL.out z).cell (by omega)).2
          have j0 : decide (0 < ((j + 1 : Nat) : Int)) = true := by simp
          have jk1 : ((j + 1 : Nat) : Int) - 1 = (j : Int) := by omega
          have jk2 : IntKind.i64.wrap (j : Int) = (j : Int) := IntWalk.i64_in _ (by omega)
          have hjm : (j : Int) < (L : Int) := by omega
          cases hd : decide (f j < f (j + 1)) with
          | false =>
            have HF := Lib.hid (show ris f n L = false from allN_bad hlt (by unfold rs1; rw [HW.out, Nat.add_sub_cancel, hd]; simp))
            have jd : decide (f (j + 1) ≤ f j) = true := by simp only [decide_eq_false_iff_not, decide_eq_true_eq] at *; omega
            clear hd hk0
            go_wp2
            refine quiet_e (by kernel_rfl) (by kernel_rfl) ?_
            repeat (first | go_big_quiet_step ((first | (go_at_call 52; exact quiet_s (HWI.out _)))) | quiet_step ((first | (go_at_call 52; exact quiet_s (HWI.out _)))))
            refine wpQuiet_nil ?_
            intro w6 hw6
            obtain ⟨y2, rfl⟩ := hw6
            go_wp2
            go_ret
            exact ⟨by rw [HF.out]; rfl, y2.b⟩
          | true =>
            have HF := Lib.hid (show ris f n (j + 1 + 1) = true from allN_succ HRI.out (by unfold rs1; rw [HW.out, Nat.add_sub_cancel, hd]; simp))
            have jd : decide (f (j + 1) ≤ f j) = false := by simp only [decide_eq_false_iff_not, decide_eq_true_eq] at *; omega
            clear hd hk0
            go_wp2
            refine quiet_e (by kernel_rfl) (by kernel_rfl) ?_
            repeat (first | go_big_quiet_step ((first | (go_at_call 52; exact quiet_s (HWI.out _)))) | quiet_step ((first | (go_at_call 52; exact quiet_s (HWI.out _)))))
            refine wpQuiet_nil ?_
            intro w6 hw6
            obtain ⟨y2, rfl⟩ := hw6
            go_wp2
            go_roundw
            case rel => exact ⟨j + 1 + 1, by go_num, hlt, HF.out, y2, rfl⟩
            case measure => first | (simp [intOf]; done) | (simp [intOf]; omega)
    · have HK := Lib.hid (show k = L by omega)
      have j : decide ((k : Int) < (L : Int)) = false := by simp; omega
      go_wp2
      go_ret
      exact ⟨by rw [← HK.out, HRI.out]; rfl, z.b⟩
theorem rising_any (L c n : Nat) (f : Nat → Int) (lp : Option Addr) (w : World) (hL : L ≤ maxLen) (hn : n ≤ 40) (hi : NumIn w w.heap.size L f lp) :
    Calls Try.prog 55 #[.slice lp L c, .int .i64 0, .int .i64 ((n : Int) - 1)] w fun e w' => e = .returned (.bool (ris f n L)) ∧ Below w.heap.size w w' := rising_x L c n f lp w ⟨w, Below.refl _ _⟩ hL hn hi
end Go.Proofs.Ythbicbmlbblflaa
