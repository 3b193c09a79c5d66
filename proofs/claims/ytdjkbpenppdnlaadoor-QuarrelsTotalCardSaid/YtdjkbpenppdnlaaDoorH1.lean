/- Towns with worlds: the worlds that are left, or the error; what is known of a law (the specification). -/
import Derived.Test.YtdjkbpenppdnlaaDoorG7

set_option linter.unusedSimpArgs false

set_option linter.unusedVariables false

namespace Go.Proofs.YtdjkbpenppdnlaaDoor

open Go.RowKit

theorem isWellR_iz {T : Tn} {A : Adr} {k : Int} {b : Bool} (h : T.well k = b) (w : World) (hn : 0 ≤ T.wn ∧ T.wn ≤ 100) : Calls Tryd.prog 47 #[.agg #[.int .i64 T.wn, .slice A.wp T.nw A.wc, .slice A.fp T.nf A.fc], .int .i64 k] w fun e w' => e = .returned (.bool b) ∧ Below w.heap.size w w' := isWellR_is h w hn
theorem askR_iz {T : Tn} {A : Adr} {is : Bool} {b : Int} (hb : askE T.ok is = b) (w : World) (hs : T.sized) (hi : TnIn w w.heap.size T A) :
    Calls Tryd.prog 76 #[.agg #[.int .i64 T.wn, .slice A.wp T.nw A.wc, .slice A.fp T.nf A.fc], .bool is] w fun e w' => e = .returned (.int .i64 b) ∧ Below w.heap.size w w' := askR_is hb w hs hi
set_option maxRecDepth 100000 in
set_option maxHeartbeats 2000000 in
theorem known_no (T : Tn) (A : Adr) (is : Bool) (er : Int) (w : World) (hs : T.sized) (hi : TnIn w w.heap.size T A) (he : T.wkE is = er) (h0 : er ≠ 0) :
    Calls Tryd.prog 81 #[.agg #[.int .i64 T.wn, .slice A.wp T.nw A.wc, .slice A.fp T.nf A.fc], .bool is] w fun e w' => e = .returned (.tuple #[.slice none 0 0, .int .i64 er]) ∧ Below w.heap.size w w' := by
  obtain ⟨w1, x, hw1, hb1, hz1, F0, F1, F2, _⟩ := box_tn w T.wn A.wp A.fp T.nw A.wc T.nf A.fc
  have HB := Lib.hid hb1
  have HI : Hid (∀ z : Ext w1, TnIn z.v z.v.heap.size T A) := fun z => (hi.bel hb1).bel z.b
  have HS := Lib.hid hs
  have f0 := F0 x; have f1 := F1 x; have f2 := F2 x
  clear hb1 hz1 hi hs
  by_cases ha : askE T.ok is = 0
  · have hl : T.LL = [] := by
      rcases Classical.em (T.LL = []) with h | h
      · exact h
      · exfalso; apply h0; rw [← he]; unfold Tn.wkE; rw [if_pos ha, if_neg h]
    have hok : T.ok = true := by
      unfold askE at ha
      cases h : T.ok with
      | true => rfl
      | false => rw [h] at ha; simp at ha
    have HE := Lib.hid (show (3 : Int) = er by rw [← he]; unfold Tn.wkE; rw [if_pos ha, if_pos hl])
    have HA := Lib.hid ha; have HO := Lib.hid hok; have HL := Lib.hid hl
    clear ha hl hok he h0
    go_enter Tryd.func81, Tryd.ntmps81
    go_wp2_with fail
    refine (quiet_x (askR_iz HA.out _ HS.out (HI.out x))).mono ?_
    rintro e w5 ⟨rfl, y, rfl⟩
    clear f0 f1 f2
    have f0 := F0 y; have f1 := F1 y; have f2 := F2 y
    go_wp2_with fail
    refine (leftOfR_any T A y.v HO.out (HI.out y)).mono ?_
    rintro e w6 ⟨v, rfl, ho, hb⟩
    rw [HL.out] at ho
    obtain ⟨p, c, rfl, _⟩ := own_form ho
    have HB6 := Lib.hid (bT HB.out (bT y.b hb))
    clear ho hb
    go_wp2
    exact bodyPost_ret (v := .tuple #[.slice none 0 0, .int .i64 3]) (by simp [results, Tryd.f81, go_sem]) rfl ⟨by rw [HE.out], HB6.out⟩
  · obtain ⟨a, ha'⟩ : ∃ a, askE T.ok is = a := ⟨_, rfl⟩
    have HE := Lib.hid (show a = er by rw [← he, ← ha']; exact (wkE_no ha).symm)
    have HA := Lib.hid ha'
    have j : (a != 0) = true := by rw [← ha']; simpa using ha
    clear ha ha' he h0
    go_enter Tryd.func81, Tryd.ntmps81
    go_wp2_with fail
    refine (quiet_x (askR_iz HA.out _ HS.out (HI.out x))).mono ?_
    rintro e w5 ⟨rfl, y, rfl⟩
    go_wp2
    exact bodyPost_ret (v := .tuple #[.slice none 0 0, .int .i64 a]) (by simp [results, Tryd.f81, go_sem]) rfl ⟨by rw [HE.out], bT HB.out y.b⟩
set_option maxRecDepth 100000 in
set_option maxHeartbeats 2000000 in
theorem known_ok (T : Tn) (A : Adr) (is : Bool) (w : World) (hs : T.sized) (hi : TnIn w w.heap.size T A) (he : T.wkE is = 0) :
    Calls Tryd.prog 81 #[.agg #[.int .i64 T.wn, .slice A.wp T.nw A.wc, .slice A.fp T.nf A.fc], .bool is] w fun e w' => ∃ p c, e = .returned (.tuple #[.slice p T.LL.length c, .int .i64 0]) ∧ At w' w'.heap.size p T.LL.length 1 (fun k => .int .i64 (nats T.LL k)) ∧ Below w.heap.size w w' := by
  obtain ⟨w1, x, hw1, hb1, hz1, F0, F1, F2, _⟩ := box_tn w T.wn A.wp A.fp T.nw A.wc T.nf A.fc
  have HB := Lib.hid hb1
  have HI : Hid (∀ z : Ext w1, TnIn z.v z.v.heap.size T A) := fun z => (hi.bel hb1).bel z.b
  have HS := Lib.hid hs
  obtain ⟨hok, rfl, hl⟩ := wkE_zero he
  have HA := Lib.hid (show askE T.ok true = 0 by rw [hok]; rfl)
  have HO := Lib.hid hok
  obtain ⟨n, hn⟩ : ∃ n, T.LL.length = n := ⟨_, rfl⟩
  have hn0 : 0 < n := by rw [← hn]; exact List.length_pos_iff.2 hl
  have j : ((n : Int) == 0) = false := by simp; omega
  have HN := Lib.hid hn
  rw [hn]
  have f0 := F0 x; have f1 := F1 x; have f2 := F2 x
  clear hb1 hz1 hi hs he hok hl hn
  go_enter Tryd.func81, Tryd.ntmps81
  go_wp2_with fail
  refine (quiet_x (askR_iz HA.out _ HS.out (HI.out x))).mono ?_
  rintro e w5 ⟨rfl, y, rfl⟩
  clear f0 f1 f2
  have f0 := F0 y; have f1 := F1 y; have f2 := F2 y
  go_wp2_with fail
  refine (leftOfR_any T A y.v HO.out (HI.out y)).mono ?_
  rintro e w6 ⟨v, rfl, ho, hb⟩
  obtain ⟨p, c, rfl, ha⟩ := own_nats ho
  rw [HN.out] at ha ⊢
  have HAT := Lib.hid ha
  have HB6 := Lib.hid (bT HB.out (bT y.b hb))
  clear ho hb ha
  go_wp2
  exact bodyPost_ret (v := .tuple #[.slice p n c, .int .i64 0]) (by simp [results, Tryd.f81, go_sem]) rfl ⟨p, c, rfl, HAT.out, HB6.out⟩
theorem fallR_is {T : Tn} {A : Adr} {k i j : Nat} {v : Int} (hv : T.fall k (i : Int) (j : Int) = v) (hok : T.ok = true) (hk : k < T.nw) (hi : (i : Int) < T.wn) (hj : (j : Int) < T.wn) (w : World) (hT : TnIn w w.heap.size T A) :
    Calls Tryd.prog 52 #[.agg #[.int .i64 T.wn, .slice A.wp T.nw A.wc, .slice A.fp T.nf A.fc], .int .i64 (k : Int), .int .i64 (i : Int), .int .i64 (j : Int)] w fun e w' => e = .returned (.int .i64 v) ∧ Below w.heap.size w w' := by
  subst hv
  rw [fall_nat]
  obtain ⟨_, _, _, H1, _⟩ := T.ok_parts hok
  obtain ⟨hrl, hr⟩ := H1 k hk
  obtain ⟨hcl, _⟩ := hr i (by omega)
  exact fallR_any T A k i j w hk (by omega) (by omega) hT
theorem fd_snoc {g : Int → Int → Int} {f : Nat → Int} : ∀ {l : List Nat} {s : Int} {x : Nat}, fdL g f s (l ++ [x]) = g (fdL g f s l) (f x)
  | [], s, x => rfl
  | y :: l, s, x => fd_snoc (l := l)
theorem cnt_snoc {f : Nat → Int} {law : Int} : ∀ {l : List Nat} {x : Nat}, cntL f law (l ++ [x]) = cntL f law l + (if law < f x then 1 else 0)
  | [], x => by simp [cntL]
  | y :: l, x => by
    show cntL f law (l ++ [x]) + _ = cntL f law l + _ + _
    rw [cnt_snoc]; omega
theorem take_snoc {l : List Nat} {k : Nat} (h : k < l.length) : l.take (k + 1) = l.take k ++ [l.getD k 0] := by
  rw [List.take_succ_eq_append_getElem h, List.getD_eq_getElem?_getD, List.getElem?_eq_getElem h]; rfl
theorem known1_any (a b : Nat) (w : World) :
    Calls Tryd.prog 84 #[.int .i64 (a : Int), .int .i64 (b : Int)] w fun e w' => e = .returned (.int .i64 (if a = 0 then 2 else if a = b then 1 else 3)) ∧ w = w' := by
  obtain ⟨r, hr⟩ : ∃ r : Int, (if a = 0 then (2 : Int) else if a = b then 1 else 3) = r := ⟨_, rfl⟩
  rw [hr]
  by_cases h1 : a = 0
  · subst h1
    have HV := Lib.hid (show (2 : Int) = r by rw [← hr]; rfl)
    clear hr
    go_enter Tryd.func84, Tryd.ntmps84
    go_wp2
    go_ret
    exact ⟨ret_i HV.out, rfl⟩
  · have j1 : ((a : Int) == 0) = false := by simp; omega
    by_cases h2 : a = b
    · subst h2
      have j2 : ((a : Int) == (a : Int)) = true := by simp
      have HV := Lib.hid (show (1 : Int) = r by rw [← hr, if_neg h1, if_pos rfl])
      clear hr
      go_enter Tryd.func84, Tryd.ntmps84
      go_wp2
      go_ret
      exact ⟨ret_i HV.out, rfl⟩
    · have j2 : ((a : Int) == (b : Int)) = false := by simp; omega
      have HV := Lib.hid (show (3 : Int) = r by rw [← hr, if_neg h1, if_neg h2])
      clear hr
      go_enter Tryd.func84, Tryd.ntmps84
      go_wp2
      go_ret
      exact ⟨ret_i HV.out, rfl⟩
theorem harm_cnt {f : Nat → Int} {law : Int} {l : List Nat} (h : l ≠ []) : harmV (mnL f l) (mxL f l) law = if cntL f law l = 0 then 2 else if cntL f law l = l.length then 1 else 3 := by
  have a := harm_all (f := f) (law := law) h
  have b := harm_none (f := f) (law := law) h
  have hl : 0 < l.length := List.length_pos_iff.2 h
  unfold harmV
  by_cases h1 : law < mnL f l
  · have := a.1 h1
    rw [if_pos h1, if_neg (by omega), if_pos this]
  · have h1' : ¬ cntL f law l = l.length := fun e => h1 (a.2 e)
    rw [if_neg h1]
    by_cases h2 : mxL f l ≤ law
    · rw [if_pos h2, if_pos (b.1 h2)]
    · rw [if_neg h2, if_neg (fun e => h2 (b.2 e)), if_neg h1']
end Go.Proofs.YtdjkbpenppdnlaaDoor
