/- Generic: the law of a region whose last operation waits for all others, inside a round of a range over a function. -/
import Derived.Test.YtdjkbpenppdnlaaDoorX1

import Derived.RangeFuncCalls

import Derived.OrdersIn

set_option linter.unusedSimpArgs false

set_option linter.unusedVariables false

namespace Go.Proofs.YtdjkbpenppdnlaaDoor

open Go

theorem upon_in {P : Program} {o : Oper} {a : Act} {K K' : Act → World → Prop} {Q : Exit → Act → World → Prop} {l n : Nat} (hK : ∀ a w, K a w → K' a w) : ∀ (r : Result Next), o.upon P a K Q r → o.uponIn (Fence.wide.inRound l) n P a K' Q r
  | .ok (.value v) w', h => hK _ _ h
  | .ok .skip w', h => hK _ _ h
  | .ok (.defer d) w', h => hK _ _ h
  | .ok (.enter f args) w', h => ⟨fun hd => by simp [Fence.inRound, Fence.wide] at hd, CallsIn.inRound l (callsIn_wide.2 (Calls.mono h fun e w'' q => by
      cases e with
      | returned v => exact hK _ _ q
      | panicked c => exact q
      | outgrown => exact q))⟩
  | .ok (.row row args) w', h => ⟨fun hd => by simp [Fence.inRound, Fence.wide] at hd, fun c cs _ => by
      obtain ⟨v, w'', r, s⟩ := h c cs
      exact ⟨v, w'', hK _ _ r, stepsIn_wide.2 s⟩⟩
  | .ok (.round l f tmps assign body) w', h => h.elim
  | .halt (.panic v) w', h => h
  | .halt .blocked _, h => h.elim
  | .halt .waiting _, h => h.elim
  | .halt (.unsupported x) _, h => by cases h
def noDefer (ops : Array Oper) : Bool := ops.all fun o => match o.op with
  | .defer _ => false
  | _ => true
theorem wpOps_in {P : Program} {ops : Array Oper} {Q : Exit → Act → World → Prop} {l n : Nat} (hd : noDefer ops = true) (hno : ¬ LetsOut Q) : ∀ (li : List Nat) (a : Act) (w : World), wpOps P ops Q li a w → wpOpsIn (Fence.wide.inRound l) n P ops Q li a w
  | [], a, w, h => h
  | i :: rest, a, w, h => by
    simp only [wpOps] at h
    simp only [wpOpsIn]
    cases ho : ops[i]? with
    | none =>
      simp only [ho] at h ⊢
      exact wpOps_in hd hno rest a w h
    | some o =>
      simp only [ho] at h ⊢
      have hdo : ∀ c, o.op ≠ .defer c := fun c e => by
        unfold noDefer at hd
        rw [Array.all_eq_true] at hd
        obtain ⟨hi, he⟩ := Array.getElem?_eq_some_iff.1 ho
        have := hd i hi
        rw [he, e] at this
        simp at this
      by_cases hw : Region.wanted o (yielded ops a.tmps) = true
      · rw [if_pos hw] at h ⊢
        rcases h with h | ⟨_, h⟩
        · refine ⟨fun _ _ => trivial, ?_⟩
          rw [Oper.semAt_eq _ _ _ hdo]
          exact upon_in (fun a w q => wpOps_in hd hno rest a w q) _ h
        · exact absurd h hno
      · rw [if_neg hw] at h ⊢
        exact ⟨fun _ _ => trivial, wpOps_in hd hno rest _ w h⟩
theorem wpIn_region_last {P : Program} {ops : Array Oper} {Q : Exit → Act → World → Prop} (S : World → Prop) (n : Nat) {id m l : Nat} {a : Act} {w : World} (hm : P.follows .mixedOrders = true) (hn : ops.size = n + 1) (hd : noDefer ops = true) (hno : ¬ LetsOut Q) (hS : S w.drew)
    (h : S w.drew → wpAnyG P .any ops Q S n n (Array.replicate ops.size false) a w.drew) : (Code.region id ops true).wpIn (Fence.wide.inRound l) m P Q a w := by
  refine wpIn_region_draw fun t => ?_
  simp only [Region.schedule, hm, Bool.true_or, if_true]
  refine wpOps_in hd hno _ _ _ (wpAny_sound ops.size t _ a _ ?_)
  rw [hn]
  have := wpAny_of_T _ _ _ _ (h hS (headInv_start hn))
  rw [hn] at this
  exact this
end Go.Proofs.YtdjkbpenppdnlaaDoor
