/- The contract of learn, for any town and wells. -/
import Derived.Test.YtmfbfcknnjbabaaB7
set_option linter.unusedSimpArgs false
set_option linter.unusedVariables false
namespace Go.Proofs.Ytmfbfcknnjbabaa
open Go.RowKit

theorem alloc76_run (W : World) (v : Value) : (Instr.alloc 76 true v).run Try.prog W = .ok (.pointer (some ⟨W.heap.size, 0, none⟩)) (W.alloc (.cells (kv 0 Z49) 76)) := by
  have hz := zero76
  cases hi : Try.prog.info? 76 with
  | none => simp [hi] at hz
  | some i =>
    have hz' : i.zero = some (.agg (kv 0 Z49)) := by simpa [hi] using hz
    simp [Instr.alloc, zeroValue, typeInfo, hi, hz', newVar, newRow, Value.cells, Sem.run_bind]
theorem setRow_alloc (X : World) (c d : Array Value) (t : TypeId) : (X.alloc (.cells c t)).setRow X.heap.size d = X.alloc (.cells d t) := by
  cases X with
  | mk heap tape drawn os output =>
    simp only [World.setRow, World.alloc]
    congr 1
    apply Array.ext
    · simp
    · intro i h1 h2
      simp only [Array.getElem_modify, Array.getElem_push]
      split <;> split <;> simp_all <;> omega
theorem store76_run (X : World) (n : Int) (M : List Int) (h : M.length = 49) : (Instr.storeAt 76 (.pointer (some ⟨X.heap.size, 0, none⟩)) (.agg (kv n M))).run Try.prog (X.alloc (.cells (kv 0 Z49) 76)) = .ok () (X.alloc (.cells (kv n M) 76)) := by
  have := run_storeVar_row (P := Try.prog) (X.alloc (.cells (kv 0 Z49) 76)) X.heap.size 76 76 (kv 0 Z49) (kv n M) (heap_alloc_new _ _) (by rw [info76, kv_size, h]) (by rw [kv_size, kv_size, h]; rfl) (by simp [kv, Value.oneCell'])
  rw [setRow_alloc] at this
  simp only [Instr.storeAt, Instr.sureAddr, Sem.run_bind, Sem.run_pure, Result.andThen_ok, this]
theorem Z49_len : Z49.length = 49 := rfl
theorem U49_len : U49.length = 49 := uIter_len 49
theorem lits_eq : (#[.int .i64 0, .int .i64 0, .int .i64 0, .int .i64 0, .int .i64 0, .int .i64 0, .int .i64 0, .int .i64 0, .int .i64 0, .int .i64 0, .int .i64 0, .int .i64 0, .int .i64 0, .int .i64 0, .int .i64 0, .int .i64 0, .int .i64 0, .int .i64 0, .int .i64 0, .int .i64 0, .int .i64 0, .int .i64 0, .int .i64 0, .int .i64 0, .int .i64 0, .int .i64 0, .int .i64 0, .int .i64 0, .int .i64 0, .int .i64 0, .int .i64 0, .int .i64 0, .int .i64 0, .int .i64 0, .int .i64 0, .int .i64 0, .int .i64 0, .int .i64 0, .int .i64 0, .int .i64 0, .int .i64 0, .int .i64 0, .int .i64 0, .int .i64 0, .int .i64 0, .int .i64 0, .int .i64 0, .int .i64 0, .int .i64 0, .int .i64 0] : Array Value) = kv 0 Z49 := by rfl
theorem storeCells76 (X : World) (n : Int) (M : List Int) (h : M.length = 49) : Sem.run Try.prog (storeCells ⟨X.heap.size, 0, none⟩ (kv n M).toList) (X.alloc (.cells #[.int .i64 0, .int .i64 0, .int .i64 0, .int .i64 0, .int .i64 0, .int .i64 0, .int .i64 0, .int .i64 0, .int .i64 0, .int .i64 0, .int .i64 0, .int .i64 0, .int .i64 0, .int .i64 0, .int .i64 0, .int .i64 0, .int .i64 0, .int .i64 0, .int .i64 0, .int .i64 0, .int .i64 0, .int .i64 0, .int .i64 0, .int .i64 0, .int .i64 0, .int .i64 0, .int .i64 0, .int .i64 0, .int .i64 0, .int .i64 0, .int .i64 0, .int .i64 0, .int .i64 0, .int .i64 0, .int .i64 0, .int .i64 0, .int .i64 0, .int .i64 0, .int .i64 0, .int .i64 0, .int .i64 0, .int .i64 0, .int .i64 0, .int .i64 0, .int .i64 0, .int .i64 0, .int .i64 0, .int .i64 0, .int .i64 0, .int .i64 0] 76)) = .ok () (X.alloc (.cells (kv n M) 76)) := by
  rw [lits_eq]
  have := store76_run X n M h
  have hi := info76
  cases hq : Try.prog.info? 76 with
  | none => simp [hq] at hi
  | some i =>
    have hs : i.size = 50 := by simpa [hq] using hi
    have hk : (kv n M).size = 50 := by rw [kv_size, h]
    simpa [Instr.storeAt, Instr.sureAddr, storeVar, sizeOf, typeInfo, hq, Value.cells, hs, hk] using this
theorem storeCells76r (W : World) (g : Nat) (n : Int) (M : List Int) (h : M.length = 49) (hr : RowAt W g 0 Z49) : Sem.run Try.prog (storeCells ⟨g, 0, none⟩ (kv n M).toList) W = .ok () (W.setRow g (kv n M)) := by
  have := run_storeVar_row (P := Try.prog) W g 76 76 (kv 0 Z49) (kv n M) hr.row (by rw [info76, kv_size, h]) (by rw [kv_size, kv_size, h]; rfl) (by simp [kv, Value.oneCell'])
  have hi := info76
  cases hq : Try.prog.info? 76 with
  | none => simp [hq] at hi
  | some i =>
    have hs : i.size = 50 := by simpa [hq] using hi
    have hk : (kv n M).size = 50 := by rw [kv_size, h]
    simpa [storeVar, sizeOf, typeInfo, hq, Value.cells, hs, hk] using this
theorem only_setRow {W : World} {g : Nat} {n m : Int} {M N : List Int} (hr : RowAt W g n N) (h : M.length = 49) : RowAt (W.setRow g (kv m M)) g m M ∧ Only W (W.setRow g (kv m M)) g := by
  refine ⟨⟨?_, h⟩, ⟨rfl, rfl, rfl, by simp [World.setRow], fun k hk hne => ?_⟩, by simp [World.setRow]⟩
  · have := hr.row
    simp [World.setRow, Array.getElem?_modify, this]
  · simp only [World.setRow, Array.getElem?_modify]
    rw [if_neg (fun e => hne (by rw [e]))]
theorem lits_row {W w' : World} (hb : Below (W.alloc (.cells (kv 0 Z49) 76)).heap.size (W.alloc (.cells (kv 0 Z49) 76)) w') : RowAt w' W.heap.size 0 Z49 := ⟨(hb.block _ (by simp)).trans (heap_alloc_new _ _), rfl⟩
theorem lits_rowd {W w' : World} (hb : Below (W.alloc (.cells (kv 0 Z49) 76)).drew.heap.size (W.alloc (.cells (kv 0 Z49) 76)).drew w') : RowAt w' W.heap.size 0 Z49 := ⟨(hb.block _ (by simp)).trans (heap_alloc_new _ _), rfl⟩
attribute [local go_sem] storeCells76 storeCells76r

theorem words_len (T : Town) : (words T).length = T.s.length + T.r.length := by simp [words]
theorem words_ok {T : Town} (hok : T.ok = true) : ∀ x ∈ words T, x.f < 7 ∧ x.t < 7 := by
  have hW := ok_W hok
  intro x hx
  simp only [words, List.mem_append, List.mem_map] at hx
  rcases hx with ⟨s, hs, rfl⟩ | ⟨s, hs, rfl⟩
  · obtain ⟨k, hk, rfl⟩ := List.getElem_of_mem hs
    have := ok_well hok hk
    simp only [wS]; omega
  · obtain ⟨k, hk, rfl⟩ := List.getElem_of_mem hs
    have := ok_ab hok hk
    simp only [wR]; omega
theorem wordsAt_own {w : World} {base : Nat} {ws : List Wd} {n : Nat} {p : Option Addr} {cap : Nat} (h : w.ownsRow base 111 4 (.slice p n cap) n (flat4 ws)) (hn : n = ws.length) : WordsAt w w.heap.size p ws := by
  refine ⟨fun h0 => ?_⟩
  obtain ⟨p', cap', e, hc⟩ := own_form h
  simp only [Value.slice.injEq] at e
  obtain ⟨g, e2, _, l, c⟩ := hc (by omega)
  exact ⟨g, by rw [e.1, e2], l, by rw [← hn]; exact c⟩

theorem wordsAt_bel {w W : World} {p : Option Addr} {ws : List Wd} (h : WordsAt w w.heap.size p ws) (hb : Below w.heap.size w W) : WordsAt W W.heap.size p ws := (h.below hb).mono hb.size
/-- what is known by all words -/
def kn (T : Town) : Option (List Int) := hTo (fun _ => true) (words T) (words T).length
/-- the wells that are asked for are ones of the town -/
def asks (T : Town) (xs : List Int) : Bool := xs.all fun x => within x 0 (T.W - 1)
/-- what learn returns: n, the numbers, the error -/
def learnt (T : Town) (xs : List Int) : Int × List Int × Int :=
  if T.ok then (if asks T xs then (match kn T with | some M => (T.W, M, 0) | none => (0, Z49, 3)) else (0, Z49, 1)) else (0, Z49, 10)

theorem asks_bad {T : Town} {xs : List Int} {k : Nat} (hk : k < xs.length) (h : within xs[k] 0 (T.W - 1) = false) : asks T xs = false := allTo_bad (p := fun x => within x 0 (T.W - 1)) hk h

theorem fin_alloc {wr w5 : World} (n : Int) (M : List Int) (hb : Below wr.heap.size wr w5) (h : M.length = 49) :
    ∃ wf, w5.alloc (.cells (kv n M) 76) = wf ∧ Below wr.heap.size wr wf ∧ RowAt wf w5.heap.size n M := ⟨_, rfl, bA hb _, heap_alloc_new _ _, h⟩
theorem fin_set {wr w5 : World} {g : Nat} (n : Int) (M : List Int) (hb : Below wr.heap.size wr w5) (hr : RowAt w5 g 0 Z49) (h : M.length = 49) (hg : wr.heap.size ≤ g) :
    ∃ wf, w5.setRow g (kv n M) = wf ∧ Below wr.heap.size wr wf ∧ RowAt wf g n M := ⟨_, rfl, only_below hb (only_setRow hr h).2 hg, (only_setRow hr h).1⟩
theorem hTo_len {S : Nat → Bool} {ws : List Wd} {M : List Int} : ∀ {k : Nat}, hTo S ws k = some M → M.length = 49 := by
  have bl : ∀ (M : List Int) p q most, (bnd M p q most).2.length = M.length := fun M p q most => by
    have hi : ∀ k, (bIter p q most M k).length = M.length := fun k => by induction k with | zero => rfl | succ k ih => simp [bIter, bStep, ih]
    unfold bnd; split
    · rfl
    · split
      · rfl
      · have h := hi 49; revert h; generalize bIter p q most M 49 = N; exact id
  have al : ∀ (M : List Int) f t lo hi, (addW M f t lo hi).2.length = M.length := fun M f t lo hi => by
    unfold addW; dsimp only; split <;> simp [bl]
  intro k
  induction k generalizing M with
  | zero => intro h; simp only [hTo, Option.some.injEq] at h; rw [← h]; exact uIter_len 49
  | succ k ih =>
    intro h
    simp only [hTo] at h
    split at h
    · cases h
    · rename_i N hN
      have := ih hN
      split at h
      · split at h
        · cases h
        · split at h
          · simp only [Option.some.injEq] at h; rw [← h, al, this]
          · cases h
      · simp only [Option.some.injEq] at h; rw [← h]; exact this

set_option maxRecDepth 100000 in
set_option maxHeartbeats 2000000 in
theorem learn_any (T : Town) (p q : Option Addr) (c d : Nat) (xs : List Int) (x : Option Addr) (cx : Nat) (w : World) (hs : T.s.length ≤ 1000000) (hr : T.r.length ≤ 1000000) (hx : xs.length ≤ 1000) (ht : TownIn w w.heap.size T p q)
    (h1 : 0 < xs.length → ∃ b o, x = some ⟨b, o, none⟩ ∧ IntsAt w w.heap.size b o xs) :
    Calls Try.prog 58 #[.agg #[.int .i64 T.W, .slice p T.s.length c, .slice q T.r.length d], .slice x xs.length cx] w fun e w' =>
      e = .returned (.tuple #[.agg (kv (learnt T xs).1 (learnt T xs).2.1), .int .i64 (learnt T xs).2.2]) ∧ Below w.heap.size w w' := by
  obtain ⟨w1, hw1, hb1, hz1, k0, k1, k2⟩ := box_town w T.W p q T.s.length T.r.length c d
  have hl1 : w.heap.size < w1.heap.size := by omega
  have hv : ∀ W, Below w1.heap.size w1 W → Calls Try.prog 56 #[.agg #[.int .i64 T.W, .slice p T.s.length c, .slice q T.r.length d]] W fun e w' => e = .returned (.bool T.ok) ∧ Below W.heap.size W w' := fun W hW =>
    valid_any T p q c d W hs hr ((ht.below (bT hb1 hW)).mono (bT hb1 hW).size)
  have HB1 := Lib.hid hb1; have HT := Lib.hid ht; have HX := Lib.hid h1
  clear hb1 hz1 ht h1
  cases hok : T.ok with
  | false =>
    rw [hok] at hv
    have HV := Lib.hid hv
    have HE : Hid (learnt T xs = (0, Z49, 10)) := by show _ = _; simp [learnt, hok]
    clear hv hok
    go_enter Try.func58, Try.ntmps58
    go_wp2_with (first
      | (refine wpList_alloc_kv rfl rfl ?_; intro w2 hr2 hb2 hz2; have HR2 := Lib.hid hr2; have HB2 := Lib.hid hb2; have HZ2 := Lib.hid hz2; have q0 := (hb2.cell (p := ⟨w.heap.size, 0, none⟩) hl1).trans k0; have q1 := (hb2.cell (p := ⟨w.heap.size, 1, none⟩) hl1).trans k1; have q2 := (hb2.cell (p := ⟨w.heap.size, 2, none⟩) hl1).trans k2; clear hr2 hb2 hz2)
      | (go_at_call 56; refine (HV.out _ HB2.out).mono ?_; rintro e w3 ⟨rfl, hb3⟩; have HB3 := Lib.hid hb3; clear hb3)
      | (refine wpList_build_kv0 rfl rfl ?_)
      | (refine wpList_store_kv rfl _ _ rfl _ 0 0 Z49 Z49 rfl rfl rfl (HR2.out.below HB3.out (by have := HZ2.out; omega)) ?_; intro w4 hr4 ho4; have HR4 := Lib.hid hr4; have HO4 := Lib.hid ho4; clear hr4 ho4))
    exact bodyPost_ret (v := .tuple #[.agg (kv 0 Z49), .int .i64 10]) (results_kv_tmp Try.results58 _ rfl HR4.out) rfl ⟨by rw [HE.out], only_below (bT HB1.out (bT HB2.out HB3.out)) HO4.out (by omega)⟩
  | true =>
    rw [hok] at hv
    have HV := Lib.hid hv; have HK := Lib.hid hok
    clear hv hok
    go_enter Try.func58, Try.ntmps58
    go_wp2_with (first
      | (refine wpList_alloc_kv rfl rfl ?_; intro w2 hr2 hb2 hz2; have HR2 := Lib.hid hr2; have HB2 := Lib.hid hb2; have HZ2 := Lib.hid hz2; have q0 := (hb2.cell (p := ⟨w.heap.size, 0, none⟩) hl1).trans k0; have q1 := (hb2.cell (p := ⟨w.heap.size, 1, none⟩) hl1).trans k1; have q2 := (hb2.cell (p := ⟨w.heap.size, 2, none⟩) hl1).trans k2; clear hr2 hb2 hz2)
      | (go_at_call 56; refine (HV.out _ HB2.out).mono ?_; rintro e w3 ⟨rfl, hb3⟩; have HB3 := Lib.hid hb3; clear hb3))
    obtain ⟨hW0, hW6⟩ := ok_W HK.out
    have hz2 := HZ2.out
    have HR3 := Lib.hid (HR2.out.below HB3.out (by omega)); have HBA := Lib.hid (bT HB1.out (bT HB2.out HB3.out)); have HBA1 := Lib.hid (bT HB2.out HB3.out)
    have hl3 : w1.heap.size < w3.heap.size := by have := HB3.out.size; omega
    clear HR2 HB2 HZ2 HB3 HV q0 q1 q2 hz2
    go_loopw [16] (fun i wr => ∃ k : Nat, i = .int .i64 k ∧ k ≤ xs.length ∧ AllTo (fun x => within x 0 (T.W - 1)) xs k ∧ Below w3.heap.size w3 wr) (fun i _ => xs.length - (intOf i).toNat)
    case atStart => exact ⟨0, rfl, Nat.zero_le _, rfl, Below.refl _ _⟩
    case round =>
      obtain ⟨k, rfl, hk, hp, hb⟩ := hrel
      have HP := Lib.hid hp; have HB := Lib.hid hb; clear hp hb
      have hc : ∀ j, wr.cell? ⟨w.heap.size, j, none⟩ = w1.cell? ⟨w.heap.size, j, none⟩ := fun j => (HB.out.cell (by simp; omega)).trans (HBA1.out.cell hl1)
      have q0 := (hc 0).trans k0
      have q1 := (hc 1).trans k1
      have q2 := (hc 2).trans k2
      have hlr : w.heap.size < wr.heap.size := by have := HB.out.size; omega
      have HRR := Lib.hid (HR3.out.below HB.out hl3)
      clear hc
      by_cases hlt : k < xs.length
      · obtain ⟨b, o, rfl, hi⟩ := HX.out (by omega)
        have e0 := (hi.below (bT HBA.out HB.out)).cell k hlt
        clear hi k0 k1 k2
        cases hw : within xs[k] 0 (T.W - 1) with
        | true =>
          have hq := isWellP_ex T.W xs[k] (.slice p T.s.length c) (.slice q T.r.length d) wr
          rw [hw] at hq
          have HQ := Lib.hid hq; have HW := Lib.hid hw
          clear hq hw
          go_wp2_with (go_at_call 87; refine HQ.out.mono ?_; rintro e w4 ⟨rfl, rfl⟩)
          go_roundw
          case rel => exact ⟨k + 1, by go_num, hlt, allTo_succ HP.out hlt HW.out, bA HB.out _⟩
          case measure => simp [intOf]; omega
        | false =>
          have hq := isWellP_ex T.W xs[k] (.slice p T.s.length c) (.slice q T.r.length d) wr
          rw [hw] at hq
          have HE : Hid (learnt T xs = (0, Z49, 1)) := by show _ = _; simp [learnt, HK.out, asks_bad hlt hw]
          have HQ := Lib.hid hq
          clear hq hw
          go_wp2_with (first
            | (go_at_call 87; refine HQ.out.mono ?_; rintro e w4 ⟨rfl, rfl⟩)
            | (refine wpList_build_kv0 rfl rfl ?_)
            | (refine wpList_store_kv rfl _ _ rfl _ 0 0 Z49 Z49 rfl rfl rfl (HRR.out.below (bA (Below.refl _ _) _) HRR.out.lt) ?_; intro w4 hr4 ho4; have HR4 := Lib.hid hr4; have HO4 := Lib.hid ho4; clear hr4 ho4))
          exact bodyPost_ret (v := .tuple #[.agg (kv 0 Z49), .int .i64 1]) (results_kv_tmp Try.results58 _ rfl HR4.out) rfl ⟨by rw [HE.out], only_below (bA (bT HBA.out HB.out) _) HO4.out (by omega)⟩
      · have hall : asks T xs = true := allTo_all HP.out (by omega)
        have HA := Lib.hid hall; clear hall HP
        have hwo : ∀ W, Below wr.heap.size wr W → Calls Try.prog 64 #[.agg #[.int .i64 T.W, .slice p T.s.length c, .slice q T.r.length d]] W fun e w' => ∃ v, e = .returned v ∧ w'.ownsRow W.heap.size 111 4 v (T.s.length + T.r.length) (flat4 (words T)) ∧ Below W.heap.size W w' := fun W hW =>
          wordsOf_any T p q c d W HK.out ((HT.out.below (bT HBA.out (bT HB.out hW))).mono (bT HBA.out (bT HB.out hW)).size)
        obtain ⟨m, hm⟩ : ∃ m : Nat, T.W = (m : Int) := ⟨T.W.toNat, by omega⟩
        obtain ⟨s8, r8⟩ := ok_len HK.out
        have hhe : ∀ (W : World) (pp : Option Addr) (cc : Nat), WordsAt W W.heap.size pp (words T) → Calls Try.prog 69 #[.int .i64 T.W, .slice pp (T.s.length + T.r.length) cc, .func (.func 89) #[] #[]] W fun e w' => e = .returned (.tuple #[.agg (kv (hres T.W (kn T)).1 (hres T.W (kn T)).2.1), .bool (hres T.W (kn T)).2.2]) ∧ Below W.heap.size W w' := fun W pp cc hW => by
          have := hearAll_any m (words T) (fun _ => true) pp cc W (by rw [words_len]; omega) (words_ok HK.out) hW (fun k W' _ _ => learn1_ex _ W')
          rw [words_len, ← hm] at this
          unfold kn
          rw [words_len]
          exact this
        have HWO := Lib.hid hwo; clear hwo hm
        cases hkn : kn T with
        | none =>
          rw [hkn] at hhe
          have HHE := Lib.hid hhe
          have HE : Hid (learnt T xs = (0, Z49, 3)) := by show _ = _; simp [learnt, HK.out, HA.out, hkn]
          clear hhe hkn
          have hz49 := Z49_len
          go_wp2
          go_region_held3 (fun w' => w'.cell? ⟨w.heap.size, 0, none⟩ = some (.int .i64 T.W) ∧ w'.cell? ⟨w.heap.size, 1, none⟩ = some (.slice p T.s.length c) ∧ w'.cell? ⟨w.heap.size, 2, none⟩ = some (.slice q T.r.length d))
            (first | go_keep | (go_split_ands; refine ⟨?_, ?_, ?_⟩ <;> (rw [Below.cell (by assumption) (by first | assumption | (simp; omega))]; assumption)) | exact ⟨(Below.cell (bA (Below.refl _ _) _) hl5).trans c0, (Below.cell (bA (Below.refl _ _) _) hl5).trans c1, (Below.cell (bA (Below.refl _ _) _) hl5).trans c2⟩ | exact ⟨(gcell (only_setRow hrow5 Z49_len).2.grown hl5 (by omega)).trans c0, (gcell (only_setRow hrow5 Z49_len).2.grown hl5 (by omega)).trans c1, (gcell (only_setRow hrow5 Z49_len).2.grown hl5 (by omega)).trans c2⟩)
            (first
              | (go_at_call 64; refine (HWO.out _ (by repeat (first | exact Below.refl _ _ | refine bd ?_ | refine bA ?_ _))).mono ?_; rintro e w4 ⟨v, rfl, ho4, hb4⟩; have HO4 := Lib.hid ho4; have HB4 := Lib.hid hb4; obtain ⟨pv, cv, rfl, _⟩ := own_form HO4.out; have hl4 : w.heap.size < w4.heap.size := (by have := hb4.size; simp at this; omega); (try have hrow4 : RowAt w4 wr.heap.size 0 Z49 := (by rw [lits_eq] at hb4; first | exact lits_row (W := wr) hb4 | exact lits_rowd (W := wr) hb4)))
              | (go_at_call 69; refine (HHE.out _ _ _ (wordsAt_bel (wordsAt_own HO4.out (words_len T).symm) (by repeat (first | exact Below.refl _ _ | refine bd ?_ | refine bA ?_ _)))).mono ?_; rintro e w5 ⟨rfl, hb5⟩; have HB5 := Lib.hid hb5; have hl5 : w.heap.size < w5.heap.size := (by have := hb5.size; (try simp at this); omega); simp only [hres]; (try have hrow5 : RowAt w5 w4.heap.size 0 Z49 := (by rw [lits_eq] at hb5; exact lits_row (W := w4) hb5)); (try have hrow5 : RowAt w5 wr.heap.size 0 Z49 := hrow4.below hb5 hrow4.lt); have hbr5 : Below wr.heap.size wr w5 := (by repeat (first | assumption | exact hb5 | refine bT ?_ hb5 | refine bT ?_ hb4 | refine bd ?_ | refine bA ?_ _ | exact Below.refl _ _)); have hb15 : Below w1.heap.size w1 w5 := bT (bT HBA1.out HB.out) hbr5; have c0 := (hb15.cell (p := ⟨w.heap.size, 0, none⟩) hl1).trans k0; have c1 := (hb15.cell (p := ⟨w.heap.size, 1, none⟩) hl1).trans k1; have c2 := (hb15.cell (p := ⟨w.heap.size, 2, none⟩) hl1).trans k2))
          all_goals first
            | (obtain ⟨wf, hwf, hbf, hrf⟩ := fin_alloc 0 Z49 hbr5 Z49_len; rw [hwf])
            | (obtain ⟨wf, hwf, hbf, hrf⟩ := fin_set 0 Z49 hbr5 hrow5 Z49_len (by first | omega | (have t := hb4.size; simp at t; omega)); rw [hwf])
          all_goals
            have HRF := Lib.hid (HRR.out.below hbf HRR.out.lt)
            have HBF := Lib.hid (bT (bT HBA.out HB.out) hbf)
            clear hwf hbf hrf hbr5 hb15 c0 c1 c2
            go_wp2_with (first
              | (refine wpList_build_kv0 rfl rfl ?_)
              | (refine wpList_store_kv rfl _ _ rfl _ 0 0 Z49 Z49 rfl rfl rfl HRF.out ?_; intro w7 hr7 ho7; have HR7 := Lib.hid hr7; have HO7 := Lib.hid ho7; clear hr7 ho7))
            exact bodyPost_ret (v := .tuple #[.agg (kv 0 Z49), .int .i64 3]) (results_kv_tmp Try.results58 _ rfl HR7.out) rfl ⟨by rw [HE.out], only_below HBF.out HO7.out (by omega)⟩
        | some M =>
          rw [hkn] at hhe
          have HHE := Lib.hid hhe
          have HE : Hid (learnt T xs = (T.W, M, 0)) := by show _ = _; simp [learnt, HK.out, HA.out, hkn]
          have hM49 : M.length = 49 := hTo_len hkn
          have hk50 : (kv T.W M).size = 50 := by rw [kv_size, hM49]
          clear hhe hkn
          go_wp2
          go_region_held3 (fun w' => w'.cell? ⟨w.heap.size, 0, none⟩ = some (.int .i64 T.W) ∧ w'.cell? ⟨w.heap.size, 1, none⟩ = some (.slice p T.s.length c) ∧ w'.cell? ⟨w.heap.size, 2, none⟩ = some (.slice q T.r.length d))
            (first | go_keep | (go_split_ands; refine ⟨?_, ?_, ?_⟩ <;> (rw [Below.cell (by assumption) (by first | assumption | (simp; omega))]; assumption)) | exact ⟨(Below.cell (bA (Below.refl _ _) _) hl5).trans c0, (Below.cell (bA (Below.refl _ _) _) hl5).trans c1, (Below.cell (bA (Below.refl _ _) _) hl5).trans c2⟩ | exact ⟨(gcell (only_setRow hrow5 hM49).2.grown hl5 (by omega)).trans c0, (gcell (only_setRow hrow5 hM49).2.grown hl5 (by omega)).trans c1, (gcell (only_setRow hrow5 hM49).2.grown hl5 (by omega)).trans c2⟩)
            (first
              | (go_at_call 64; refine (HWO.out _ (by repeat (first | exact Below.refl _ _ | refine bd ?_ | refine bA ?_ _))).mono ?_; rintro e w4 ⟨v, rfl, ho4, hb4⟩; have HO4 := Lib.hid ho4; have HB4 := Lib.hid hb4; obtain ⟨pv, cv, rfl, _⟩ := own_form HO4.out; have hl4 : w.heap.size < w4.heap.size := (by have := hb4.size; simp at this; omega); (try have hrow4 : RowAt w4 wr.heap.size 0 Z49 := (by rw [lits_eq] at hb4; first | exact lits_row (W := wr) hb4 | exact lits_rowd (W := wr) hb4)))
              | (go_at_call 69; refine (HHE.out _ _ _ (wordsAt_bel (wordsAt_own HO4.out (words_len T).symm) (by repeat (first | exact Below.refl _ _ | refine bd ?_ | refine bA ?_ _)))).mono ?_; rintro e w5 ⟨rfl, hb5⟩; have HB5 := Lib.hid hb5; have hl5 : w.heap.size < w5.heap.size := (by have := hb5.size; (try simp at this); omega); simp only [hres]; (try have hrow5 : RowAt w5 w4.heap.size 0 Z49 := (by rw [lits_eq] at hb5; exact lits_row (W := w4) hb5)); (try have hrow5 : RowAt w5 wr.heap.size 0 Z49 := hrow4.below hb5 hrow4.lt); have hbr5 : Below wr.heap.size wr w5 := (by repeat (first | assumption | exact hb5 | refine bT ?_ hb5 | refine bT ?_ hb4 | refine bd ?_ | refine bA ?_ _ | exact Below.refl _ _)); have hb15 : Below w1.heap.size w1 w5 := bT (bT HBA1.out HB.out) hbr5; have c0 := (hb15.cell (p := ⟨w.heap.size, 0, none⟩) hl1).trans k0; have c1 := (hb15.cell (p := ⟨w.heap.size, 1, none⟩) hl1).trans k1; have c2 := (hb15.cell (p := ⟨w.heap.size, 2, none⟩) hl1).trans k2))
          all_goals first
            | (obtain ⟨wf, hwf, hbf, hrf⟩ := fin_alloc T.W M hbr5 hM49; rw [hwf])
            | (obtain ⟨wf, hwf, hbf, hrf⟩ := fin_set T.W M hbr5 hrow5 hM49 (by first | omega | (have t := hb4.size; simp at t; omega)); rw [hwf])
          all_goals
            have HRF := Lib.hid (HRR.out.below hbf HRR.out.lt)
            have HRG := Lib.hid hrf
            have HBF := Lib.hid (bT (bT HBA.out HB.out) hbf)
            clear hwf hbf hrf hbr5 hb15 c0 c1 c2
            go_wp2_with (first
              | (refine wpList_load_kv rfl _ rfl _ T.W M rfl HRG.out ?_)
              | (refine wpList_store_kv rfl _ _ rfl _ T.W 0 M Z49 rfl rfl hM49 HRF.out ?_; intro w7 hr7 ho7; have HR7 := Lib.hid hr7; have HO7 := Lib.hid ho7; clear hr7 ho7))
            exact bodyPost_ret (v := .tuple #[.agg (kv T.W M), .int .i64 0]) (results_kv_tmp Try.results58 _ rfl HR7.out) rfl ⟨by rw [HE.out], only_below HBF.out HO7.out (by omega)⟩
end Go.Proofs.Ytmfbfcknnjbabaa
