/- The contract of Why, of a town with a truth: the first list of wells that leads to the well. The contract of Clash, of a town without a truth: the first list of words that leaves none. -/
import Derived.Test.YtmfbfcknnjbabaaG2
import Derived.Test.YtmfbfcknnjbabaaG1
import Derived.Test.YtmfbfcknnjbabaaF3
import Derived.Test.YtmfbfcknnjbabaaE4
import Derived.Deep.DeepFit
import Derived.Test.YtmfbfcknnjbabaaB7
set_option linter.unusedSimpArgs false
set_option linter.unusedVariables false
namespace Go.Proofs.Ytmfbfcknnjbabaa
open Go.RowKit Go.Shelf
attribute [local go_sem] Oper.semAt_some

def whyP (T : Town) (u h : Int) (l : List Int) : Bool := leadsB T l u h
def whyL (n : Nat) (k : Nat) : List (List Int) := ext difB n k []

/-- what a search returns: the list that it found, in memory of its own, or the error 3 -/
def RetL (w w' : World) (o : Option (List Int)) (e : Ending) : Prop := match o with
  | some l => ∃ p c, e = .returned (.tuple #[.slice p l.length c, .int .i64 0]) ∧ w'.ownsRow w.heap.size 3 1 (.slice p l.length c) l.length (l.map (Value.int .i64))
  | none => e = .returned (.tuple #[.slice none 0 0, .int .i64 3])
/-- a list that was found lies in the result's boxes -/
structure RetAt (w W0 V : World) (B r1 r2 : Nat) (l : List Int) (p : Option Addr) (c : Nat) : Prop where
  b1 : Boxed V r1 26 (.slice p l.length c)
  b2 : Boxed V r2 30 (.int .i64 0)
  own : V.ownsRow w.heap.size 3 1 (.slice p l.length c) l.length (l.map (Value.int .i64))
  bel : Below w.heap.size w V
  same : ∀ k, B ≤ k → k < W0.heap.size → V.heap[k]? = W0.heap[k]?
theorem RetAt.put {w W0 V : World} {B r1 r2 L : Nat} {l : List Int} {p : Option Addr} {c : Nat} {r : Loop} {o : Obj} (h : RetAt w W0 V B r1 r2 l p c) (hr : V.heap[L]? = some (.loop r)) (h1 : W0.heap.size ≤ L) (h2 : w.heap.size ≤ L) : RetAt w W0 (V.putObj L o) B r1 r2 l p c :=
  have k : Kc V (V.putObj L o) := kc_put (by rw [hr]; intros; simp)
  ⟨boxed_kc h.b1 k, boxed_kc h.b2 k, own_kc h.own k, h.bel.trans (below_putObj V o h2), fun i hi hl => (World.putObj_heap_other (by omega)).trans (h.same i hi hl)⟩
theorem retAt_mk {w W0 V9 V : World} {B r1 r2 : Nat} {l : List Int} {p : Option Addr} {c : Nat} {v1 v2 : Value} (hV : V = (V9.setCell ⟨r1, 0, none⟩ (.slice p l.length c)).setCell ⟨r2, 0, none⟩ (.int .i64 0)) (hne : r1 ≠ r2) (b1 : Boxed V9 r1 26 v1) (b2 : Boxed V9 r2 30 v2) {base : Nat}
    (ho : V9.ownsRow base 3 1 (.slice p l.length c) l.length (l.map (Value.int .i64))) (hb : Below W0.heap.size W0 V9) (hW0 : Below w.heap.size w W0) (hB : B ≤ W0.heap.size) (hbase : W0.heap.size ≤ base) (h1 : w.heap.size ≤ r1) (h2 : w.heap.size ≤ r2) (h1' : r1 < B) (h2' : r2 < B) : RetAt w W0 V B r1 r2 l p c := by
  subst hV
  have g1 := grownBy_setCell' V9 r1 (.slice p l.length c)
  have g2 := grownBy_setCell' (V9.setCell ⟨r1, 0, none⟩ (.slice p l.length c)) r2 (.int .i64 0)
  have hs := hW0.size
  have hs' := hb.size
  have hB9 : Below w.heap.size w V9 := hW0.trans (hb.mono hs)
  refine ⟨(b1.set _).kept g2 (by simpa using hne), Boxed.set _ (b2.kept g1 (by simp; omega)), own_base (own_set (own_set ho (by omega)) (by omega)) (by omega), ⟨g2.os.trans (g1.os.trans hB9.os), g2.tape.trans (g1.tape.trans hB9.tape), g2.output.trans (g1.output.trans hB9.output), Nat.le_trans hB9.size (Nat.le_trans g1.size g2.size), fun i hi => ?_⟩, fun i hi hl => ?_⟩
  · exact (g2.block i (by have := g1.size; omega) (by simp; omega)).trans ((g1.block i (by omega) (by simp; omega)).trans (hB9.block i hi))
  · exact (g2.block i (by have := g1.size; omega) (by simp; omega)).trans ((g1.block i (by omega) (by simp; omega)).trans (hb.block i hl))
def InW (f : List Int → Bool) (W0 : World) (xs : List Got) (V : World) : Prop := Below W0.heap.size W0 V ∧ ∀ x ∈ xs, f x.2.2 = false
def IxW (f : List Int → Bool) (w W0 : World) (B r1 r2 : Nat) (cd : Code) (xs : List Got) (V : World) : Prop :=
  cd = .ret ∧ ∃ (pre : List Got) (x : Got) (pp : Option Addr) (cc : Nat), xs = pre ++ [x] ∧ (∀ y ∈ pre, f y.2.2 = false) ∧ f x.2.2 = true ∧ RetAt w W0 V B r1 r2 x.2.2 pp cc
theorem IxW.put {f : List Int → Bool} {w W0 A : World} {B r1 r2 L : Nat} {cd : Code} {s : List Got} {r : Loop} {o : Obj} (h : IxW f w W0 B r1 r2 cd s A) (hr : A.heap[L]? = some (.loop r)) (h1 : W0.heap.size ≤ L) (h2 : w.heap.size ≤ L) : IxW f w W0 B r1 r2 cd s (A.putObj L o) :=
  ⟨h.1, let ⟨pre, x, pp, cc, e, h0, h1', h2'⟩ := h.2; ⟨pre, x, pp, cc, e, h0, h1', h2'.put hr h1 h2⟩⟩
theorem findTo_none_succ {f : List Int → Bool} {L : Nat → List (List Int)} {k : Nat} {xs : List Got} (h : findTo f L k = none) (hx : xs.map (fun x => x.2.2) = L k) (h0 : ∀ x ∈ xs, f x.2.2 = false) : findTo f L (k + 1) = none := by
  simp only [findTo]; rw [h]
  refine find_none fun y hy => ?_
  rw [← hx] at hy
  obtain ⟨x, hx, rfl⟩ := List.mem_map.1 hy
  exact h0 x hx
theorem findTo_some_succ {f : List Int → Bool} {L : Nat → List (List Int)} {k : Nat} {pre : List Got} {x : Got} (h : findTo f L k = none) (hx : ((pre ++ [x]).map fun x => x.2.2) <+: L k) (h0 : ∀ y ∈ pre, f y.2.2 = false) (h1 : f x.2.2 = true) : findTo f L (k + 1) = some x.2.2 := by
  simp only [findTo]; rw [h]
  refine find_some_pre (pre := pre.map fun x => x.2.2) (by simpa using hx) (fun y hy => ?_) h1
  obtain ⟨z, hz, rfl⟩ := List.mem_map.1 hy
  exact h0 z hz
theorem results43 : Try.f43.results = #[.cell 4 26, .cell 5 30] := Try.results43
theorem field38_1 (a b : Int) (w : World) : (Instr.field 38 (.agg #[.int .i64 a, .int .i64 b]) 1).run Try.prog w = .ok (.int .i64 b) w := by kernel_rfl
theorem box_why (w : World) (W : Int) (p q : Option Addr) (m n c d : Nat) (u : Int) :
    ∃ w1, (((w.alloc (Obj.cells #[Value.int IntKind.i64 W, Value.slice p m c, Value.slice q n d] 25)).alloc (Obj.cells #[Value.int IntKind.i64 u] 3)).alloc (Obj.cells #[Value.slice none 0 0] 26)).alloc (Obj.cells #[Value.int IntKind.i64 0] 30) = w1 ∧ Below w.heap.size w w1 ∧ w1.heap.size = w.heap.size + 1 + 1 + 1 + 1 ∧
      w1.cell? ⟨w.heap.size, 0, none⟩ = some (.int .i64 W) ∧ w1.cell? ⟨w.heap.size, 1, none⟩ = some (.slice p m c) ∧ w1.cell? ⟨w.heap.size, 2, none⟩ = some (.slice q n d) ∧
      Boxed w1 (w.heap.size + 1) 3 (.int .i64 u) ∧ Boxed w1 (w.heap.size + 1 + 1) 26 (.slice none 0 0) ∧ Boxed w1 (w.heap.size + 1 + 1 + 1) 30 (.int .i64 0) := by
  refine ⟨_, rfl, bA (bA (bA (bA (Below.refl _ _) _) _) _) _, by simp, by go_simp, by go_simp, by go_simp, ?_, ?_, ?_⟩
  · have := ((Boxed.new (w.alloc (.cells #[.int .i64 W, .slice p m c, .slice q n d] 25)) 3 (.int .i64 u)).alloc (.cells #[.slice none 0 0] 26)).alloc (.cells #[.int .i64 0] 30)
    simpa using this
  · have := (Boxed.new ((w.alloc (.cells #[.int .i64 W, .slice p m c, .slice q n d] 25)).alloc (.cells #[.int .i64 u] 3)) 26 (.slice none 0 0)).alloc (.cells #[.int .i64 0] 30)
    simpa using this
  · have := Boxed.new (((w.alloc (.cells #[.int .i64 W, .slice p m c, .slice q n d] 25)).alloc (.cells #[.int .i64 u] 3)).alloc (.cells #[.slice none 0 0] 26)) 30 (.int .i64 0)
    simpa using this

set_option maxRecDepth 100000 in
set_option maxHeartbeats 2000000 in
theorem why_ok (T : Town) (M : List Int) (n u : Nat) (p q : Option Addr) (c d : Nat) (w : World) (hok : T.ok = true) (hk : kn T = some M) (hn : T.W = n) (hu : u < n) (ht : TownIn w w.heap.size T p q) :
    CallsIn Fence.wide 9 Try.prog 43 #[.agg #[.int .i64 T.W, .slice p T.s.length c, .slice q T.r.length d], .int .i64 u] w fun e w' => RetL w w' (findTo (whyP T u (dif M 0 (u + 1)).2) (whyL n) (n + 1)) e ∧ Below w.heap.size w w' := by
  rw [hn]
  obtain ⟨w1, hw1, hb1, hz1, k0, k1, k2, bu, b26, b30⟩ := box_why w (n : Int) p q T.s.length T.r.length c d u
  have hl1 : w.heap.size < w1.heap.size := by omega
  have cu := bu.cell
  have hfl := field38_1
  have hM : M.length = 49 := hTo_len hk
  have hW := ok_W hok
  have hn6 : n ≤ 6 := by omega
  obtain ⟨⟨y1, y2⟩, hy⟩ : ∃ y, dif M 0 (u + 1) = y := ⟨_, rfl⟩
  have ha : asks T [(u : Int)] = true := by simp [asks, within]; omega
  have hlearn : ∀ W cx g, W.heap.size = g → Below w1.heap.size w1 W → Calls Try.prog 58 #[.agg #[.int .i64 n, .slice p T.s.length c, .slice q T.r.length d], .slice (some ⟨g, 0, none⟩) 1 cx] (W.alloc (.cells #[.int .i64 u] 3)) fun e w' =>
      e = .returned (.tuple #[.agg (kv n M), .int .i64 0]) ∧ Below (W.alloc (.cells #[.int .i64 u] 3)).heap.size (W.alloc (.cells #[.int .i64 u] 3)) w' := fun W cx g hg hW => by
    subst hg
    have := learn_ok T M p q c d [(u : Int)] (some ⟨W.heap.size, 0, none⟩) cx _ hok hk ha (by simp) ((ht.below (bT hb1 (bA hW _))).mono (bT hb1 (bA hW _)).size) (lit1 _ (Below.refl _ _))
    rw [hn] at this
    exact this
  have hlev : ∀ W g, RowAt W g n M → Calls Try.prog 59 #[.pointer (some ⟨g, 0, none⟩), .int .i64 u] W fun e w' => e = .returned (.agg #[.int .i64 y1, .int .i64 y2]) ∧ Below W.heap.size W w' := fun W g hr => by
    have := level_any n M g u W (by omega) hr
    rwa [hy] at this
  have HLEN := Lib.hid (ok_len hok); have HY := Lib.hid hy; have HL := Lib.hid hlearn; have HW1 := Lib.hid hz1; have BU := Lib.hid bu; have B26 := Lib.hid b26; have B30 := Lib.hid b30; have HV := Lib.hid hlev; have HB1 := Lib.hid hb1; have HT := Lib.hid ht
  clear hlearn hlev hb1 hz1 ht hok hk ha hy bu b26 b30
  refine callsIn_of_wp_marks Try.func43 rfl trivial ?_ rfl
  simp only [Try.ntmps43, List.size_toArray, List.length_cons, List.length_nil, Nat.reduceAdd, Nat.reduceSub, Array.replicate_succ, Array.replicate_zero, List.push_toArray, List.append_toArray, List.nil_append, List.cons_append]
  gi_wp2_with (first
    | (refine ⟨trivial, ?_⟩; gi_at_call 58; refine (callsIn_wide.2 (HL.out _ _ _ (by simp) (by repeat (first | exact Below.refl _ _ | refine bA ?_ _)))).mono ?_; rintro e w2 ⟨rfl, hb2⟩; have HB2 := Lib.hid (bT (by repeat (first | exact Below.refl _ _ | refine bA ?_ _) : Below w1.heap.size w1 _) hb2); clear hb2)
    | (refine wpListIn_alloc_kv rfl rfl ?_; intro w3 hr3 hb3 hz3; have HR3 := Lib.hid hr3; have HB3 := Lib.hid hb3; have HZ3 := Lib.hid hz3; clear hr3 hb3 hz3)
    | (refine wpListIn_store_kv rfl _ _ rfl _ n 0 M Z49 rfl rfl hM HR3.out ?_; intro w4 hr4 ho4; go_must (have HR4 := Lib.hid hr4; have HB4 := Lib.hid (bT HB2.out (row_only HB3.out ho4)); have cu4 := Boxed.cell (Boxed.bel BU.out HB4.out (by have := HW1.out; omega)); clear hr4 ho4))
    | (refine ⟨trivial, ?_⟩; gi_at_call 59; refine (callsIn_wide.2 (HV.out _ _ HR4.out)).mono ?_; rintro e w5 ⟨rfl, hb5⟩; have HB5 := Lib.hid (bT HB4.out hb5); have q0 := (HB5.out.cell (p := ⟨w.heap.size, 0, none⟩) hl1).trans k0; have hl5 : w.heap.size < w5.heap.size := (by have := HB5.out.size; omega); clear hb5))
  have HB6 := Lib.hid (bA HB5.out (.cells #[.int .i64 y2] 3))
  have b8 : Boxed (w5.alloc (.cells #[.int .i64 y2] 3)) w5.heap.size 3 (.int .i64 y2) := Boxed.new _ _ _
  obtain ⟨w6, hw6⟩ : ∃ W, w5.alloc (Obj.cells #[Value.int IntKind.i64 y2] 3) = W := ⟨_, rfl⟩
  rw [hw6] at b8 ⊢
  have hz6 : w5.heap.size < w6.heap.size := by rw [← hw6]; simp
  have HB6' : Hid (Below w1.heap.size w1 w6) := by rw [← hw6]; exact HB6.out
  have hz61 := HB6'.out.size
  have B8 := Lib.hid b8
  have KT := Lib.hid (show w1.cell? ⟨w.heap.size, 0, none⟩ = some (.int .i64 n) ∧ w1.cell? ⟨w.heap.size, 1, none⟩ = some (.slice p T.s.length c) ∧ w1.cell? ⟨w.heap.size, 2, none⟩ = some (.slice q T.r.length d) from ⟨k0, k1, k2⟩)
  have hleads : ∀ (V : World) (g : Nat) (l : List Int), Below w1.heap.size w1 V → l.length ≤ 1000 → IntsAt V V.heap.size g 0 l → Calls Try.prog 82 #[.agg #[.int .i64 n, .slice p T.s.length c, .slice q T.r.length d], .slice (some ⟨g, 0, none⟩) l.length l.length, .int .i64 u, .int .i64 y2] V fun e w' => e = .returned (.bool (whyP T u y2 l)) ∧ Below V.heap.size V w' := fun V g l hV hl hi => by
    have := leads_any T l u y2 p q (some ⟨g, 0, none⟩) c d V (by have := HLEN.out.1; omega) (by have := HLEN.out.2; omega) hl ((HT.out.below (HB1.out.trans (hV.mono HB1.out.size))).mono (HB1.out.trans (hV.mono HB1.out.size)).size) (fun _ => ⟨g, 0, rfl, hi⟩)
    rw [hn] at this
    exact this
  have HLE := Lib.hid hleads
  clear HB6 hw6 cu4 q0 hl5 b8 HL HV hw1 cu k0 k1 k2 hleads
  refine wpIn_loop (fun a W => ∃ (k : Nat) (Ds : List Nat) (v9 v28 v29 v30 v31 v32 v33 v42 : Value), a = Act.mk
        #[Value.agg #[Value.int IntKind.i64 n, Value.slice p T.s.length c, Value.slice q T.r.length d],
          Value.int IntKind.i64 u, Value.pointer (some { block := w.heap.size, off := 0 }),
          Value.pointer (some { block := w.heap.size + 1, off := 0 }),
          Value.pointer (some { block := w.heap.size + 1 + 1, off := 0 }),
          Value.pointer (some { block := w.heap.size + 1 + 1 + 1, off := 0 }),
          Value.pointer (some { block := w2.heap.size, off := 0 }), Value.int IntKind.i64 0,
          Value.pointer (some { block := w5.heap.size, off := 0 }), v9, undef,
          Value.tuple #[Value.agg (kv n M), Value.int IntKind.i64 0],
          Value.agg #[Value.int IntKind.i64 n, Value.slice p T.s.length c, Value.slice q T.r.length d],
          Value.int IntKind.i64 u, Value.slice (some { block := w1.heap.size, off := 0 }) 1 1,
          Value.tuple #[Value.agg (kv n M), Value.int IntKind.i64 0], Value.agg (kv n M), Value.int IntKind.i64 0,
          Value.int IntKind.i64 0, Value.bool false, undef, Value.int IntKind.i64 u,
          Value.agg #[Value.int IntKind.i64 y1, Value.int IntKind.i64 y2], Value.int IntKind.i64 y2,
          Value.pointer (some { block := w.heap.size, off := 0 }), Value.int IntKind.i64 n,
          Value.int IntKind.i64 ((n : Int) + 1), Value.int IntKind.i64 k, v28, v29, v30, v31, v32, v33, undef,
          undef, undef, undef, undef, undef, undef, undef, v42] (Ds.map mkD) ∧ k ≤ n + 1 ∧ Marks w6.heap.size W Ds ∧ Below w6.heap.size w6 W ∧ findTo (whyP T u y2) (whyL n) k = none)
    (fun a _ => n + 1 - (intOf (a.tmps.getD 27 undef)).toNat) ?start ?round
  case start => exact ⟨0, [], _, _, _, _, _, _, _, _, rfl, by omega, Marks.nil _ _, Below.refl _ _, rfl⟩
  case round =>
    rintro a W ⟨k, Ds, v9, v28, v29, v30, v31, v32, v33, v42, rfl, hk, hm, hb, hf⟩
    have hbx := HB6'.out.trans (hb.mono hz61)
    have HM := Lib.hid hm; have HB := Lib.hid hb; have HBX := Lib.hid hbx; have HF := Lib.hid hf
    have q0 := (HBX.out.cell (p := ⟨w.heap.size, 0, none⟩) hl1).trans KT.out.1
    have hl6 : w6.heap.size ≤ W.heap.size := HB.out.size
    clear hm hb hbx hf
    by_cases hlt : k < n + 1
    · have hltI : (k : Int) < (n : Int) + 1 := by omega
      gi_wp2_with (refine ⟨trivial, ?_⟩; gi_at_call 65; refine (callsIn_wide.2 (lists81_ex _ _ _)).mono ?_; rintro e w7 ⟨rfl, hw7⟩; go_must (have HW7 := Lib.hid hw7; clear hw7))
      have hb7 : Below W.heap.size W w7 := by rw [← HW7.out]; exact bA (bA (bA (Below.refl _ _) _) _) _
      have hz7 : w7.heap.size = W.heap.size + 3 := by rw [← HW7.out]; simp
      have d0 : Boxed w7 W.heap.size 3 (.int .i64 n) := by
        have := ((Boxed.new W 3 (.int .i64 n)).alloc (.cells #[.int .i64 k] 3)).alloc (.cells #[.func (.func 81) #[] #[]] 90)
        rw [← HW7.out]; exact this
      have d1 : Boxed w7 (W.heap.size + 1) 3 (.int .i64 k) := by
        have := (Boxed.new (W.alloc (.cells #[.int .i64 n] 3)) 3 (.int .i64 k)).alloc (.cells #[.func (.func 81) #[] #[]] 90)
        rw [← HW7.out]; simpa using this
      have d2 : Boxed w7 (W.heap.size + 2) 90 (.func (.func 81) #[] #[]) := by
        have := Boxed.new ((W.alloc (.cells #[.int .i64 n] 3)).alloc (.cells #[.int .i64 k] 3)) 90 (.func (.func 81) #[] #[])
        rw [← HW7.out]; simpa using this
      clear HW7
      have hw7 : Below w.heap.size w w7 := HB1.out.trans ((HBX.out.trans (hb7.mono (by omega))).mono HB1.out.size)
      have hb67 : Below w6.heap.size w6 w7 := HB.out.trans (hb7.mono hl6)
      have hm7 := HM.out.below hb7
      have H7 := Lib.hid hw7; have H67 := Lib.hid hb67; have HM7 := Lib.hid hm7; clear hw7 hb67 hm7
      refine rangeF rfl (by omega) (gf := 91) (lb := #[.pointer (some ⟨W.heap.size + 1, 0, none⟩), .pointer (some ⟨W.heap.size, 0, none⟩), .pointer (some ⟨W.heap.size + 2, 0, none⟩)]) rfl trivial (enters_of Try.func91 (by kernel_rfl) rfl)
        (encs := encG) PG (InW (whyP T u y2) w7) (IxW (whyP T u y2) w w7 w6.heap.size (w.heap.size + 1 + 1) (w.heap.size + 1 + 1 + 1))
        (fun xs => xs.map (fun x => x.2.2) = whyL n k) (fun pre => (pre.map fun x => x.2.2) <+: whyL n k) w6.heap.size (by omega)
        (fun _ => rfl) (fun s A B h k => ⟨h.1.trans k, h.2⟩)
        (fun cd s A r o h hr => h.put hr (by omega) (by have := HB1.out.size; omega))
        ⟨Below.refl _ _, fun x hx => by cases hx⟩ ?seq ?round2 ?done ?stop
      case seq =>
        intro l J Jx V hl1 hl2 hBV hJ hJb hJxb hY h0
        refine callsIn_wide.2 (lists181_any l n k V.heap.size (W.heap.size + 1) W.heap.size (W.heap.size + 2) J Jx V (by omega) (by omega) (Nat.le_refl _) hJ (fun m pre x A hj hp => yieldAny rfl m (hY pre x A hj hp)) ?_ ?_ ?_ ?_ h0)
        · have tr : ∀ A : World, (∀ k, w6.heap.size ≤ k → k < w7.heap.size → A.heap[k]? = w7.heap[k]?) → A.cell? ⟨W.heap.size + 1, 0, none⟩ = some (.int .i64 k) ∧ A.cell? ⟨W.heap.size, 0, none⟩ = some (.int .i64 n) ∧ A.cell? ⟨W.heap.size + 2, 0, none⟩ = some (.func (.func 81) #[] #[]) := fun A h =>
            ⟨(World.cell?_of_block (h (W.heap.size + 1) (by omega) (by omega))).trans d1.cell, (World.cell?_of_block (h W.heap.size (by omega) (by omega))).trans d0.cell, (World.cell?_of_block (h (W.heap.size + 2) (by omega) (by omega))).trans d2.cell⟩
          rintro s A (h | h)
          · exact tr A (hJb _ _ h)
          · exact tr A (hJxb _ _ h)
        · exact (hBV.cell (p := ⟨W.heap.size + 1, 0, none⟩) (by simp only; omega)).trans d1.cell
        · exact (hBV.cell (p := ⟨W.heap.size, 0, none⟩) (by simp only; omega)).trans d0.cell
        · exact (hBV.cell (p := ⟨W.heap.size + 2, 0, none⟩) (by simp only; omega)).trans d2.cell
      case round2 =>
        rintro l pre ⟨g, m, xs⟩ V hl ⟨r, hr⟩ hI ⟨hx0, hx1, hx2⟩
        dsimp only at hx0 hx1 hx2
        subst hx0
        simp only [encG]
        have HX2 := Lib.hid hx2; have HR := Lib.hid hr; have HI := Lib.hid hI
        clear hx2 hr hI d0 d1 d2
        gi_wp2
        refine ⟨Below.refl _ _, fun V2 hg2 hs2 hI2 => ?_⟩
        have hi2 := ints_grown HX2.out HR.out hg2
        have hb2 : Below w1.heap.size w1 V2 := (HBX.out.trans (hb7.mono (by omega))).trans (hI2.1.mono (by omega))
        have q0 := (hb2.cell (p := ⟨w.heap.size, 0, none⟩) hl1).trans KT.out.1
        have q1 := (hb2.cell (p := ⟨w.heap.size, 1, none⟩) hl1).trans KT.out.2.1
        have q2 := (hb2.cell (p := ⟨w.heap.size, 2, none⟩) hl1).trans KT.out.2.2
        have qu := Boxed.cell (Boxed.bel BU.out hb2 (by have := HW1.out; omega))
        have q8 := Boxed.cell (Boxed.bel B8.out ((HB.out.trans (hb7.mono (by omega))).trans (hI2.1.mono (by omega))) hz6)
        have hcall := HLE.out V2 g xs hb2 hx1 hi2
        have HG2 := Lib.hid hg2; have HS2 := Lib.hid hs2; have HI2 := Lib.hid hI2; have HII := Lib.hid hi2; have HBB := Lib.hid hb2
        clear hg2 hs2 hI2 hi2 hb2 hb7
        cases hp : whyP T u y2 xs with
        | false =>
          rw [hp] at hcall
          have HCA := Lib.hid hcall; have HP := Lib.hid hp
          clear hcall hp
          gi_wp2_with (refine ⟨trivial, ?_⟩; gi_at_call 82; refine (CallsIn.inRound l (callsIn_wide.2 HCA.out)).mono ?_; rintro e w8 ⟨rfl, hb8⟩; go_must (have HB8 := Lib.hid hb8; clear hb8))
          refine ⟨Kp.of_below HB8.out, HI2.out.1.trans (HB8.out.mono HI2.out.1.size), fun y hy => ?_⟩
          rcases List.mem_append.1 hy with hy | hy
          · exact HI2.out.2 y hy
          · obtain rfl := List.mem_singleton.1 hy; exact HP.out
        | true =>
          rw [hp] at hcall
          have HCA := Lib.hid hcall; have HP := Lib.hid hp
          clear hcall hp
          gi_wp2_with (first
            | (refine ⟨trivial, ?_⟩; gi_at_call 82; refine (CallsIn.inRound l (callsIn_wide.2 HCA.out)).mono ?_; rintro e w8 ⟨rfl, hb8⟩; go_must (have HB8 := Lib.hid hb8; clear hb8))
            | (refine ⟨trivial, ?_⟩; gi_at_call 70; refine (CallsIn.inRound l (callsIn_wide.2 (clone_any xs g xs.length w8 hx1 ((HII.out.below HB8.out).mono HB8.out.size)))).mono ?_; rintro e w9 ⟨v, rfl, ho9, hb9⟩; go_must (obtain ⟨pp, cc, rfl, _⟩ := own_form ho9; have hb29 := bT HB8.out hb9; have e26 := Boxed.bel (Boxed.bel B26.out HBB.out (by have := HW1.out; omega)) hb29 (by have := HBB.out.size; have := HW1.out; omega); have e30 := Boxed.bel (Boxed.bel B30.out HBB.out (by have := HW1.out; omega)) hb29 (by have := HBB.out.size; have := HW1.out; omega); have c26 := e26.cell; have f26 := e26.frozen; have c30 := e30.cell; have f30 := e30.frozen; have E26 := Lib.hid e26; have E30 := Lib.hid e30; have HO9 := Lib.hid ho9; have HB9 := Lib.hid hb9; have HB29 := Lib.hid hb29; clear e26 e30 ho9 hb9 hb29)))
          have z1 := HW1.out
          have z8 := HB8.out.size
          have z2 := HI2.out.1.size
          refine ⟨(Kp.of_below HB29.out).trans ((Kp.set_at w9 _ _ (by omega)).trans (Kp.set_at _ _ _ (by omega))), rfl, pre, (g, xs.length, xs), pp, cc, rfl, HI2.out.2, HP.out,
            retAt_mk rfl (by omega) E26.out E30.out HO9.out (HI2.out.1.trans (HB29.out.mono HI2.out.1.size)) H7.out (by omega) (by omega) (by omega) (by omega) (by omega) (by omega)⟩
      case done =>
        rintro D xs W9 hD hS hI hK
        gi_wp2_with fail
        refine ⟨⟨k + 1, D :: Ds, _, _, _, _, _, _, _, _, rfl, by omega, HM7.out.cons (by omega) hD hK (fun i _ hl => hI.1.block i hl), H67.out.trans (hI.1.mono (by omega)), findTo_none_succ HF.out hS hI.2⟩, ?_⟩
        simp [intOf]; omega
      case stop =>
        rintro D cd pre W9 hD hSp ⟨rfl, hx⟩ hK
        gi_wp2_with fail
        obtain ⟨pre0, x, pp, cc, rfl, h0, h1, hr⟩ := hx
        refine leave_marks (B := w6.heap.size) (D :: Ds) W9 (HM7.out.cons (by omega) hD hK hr.same) fun W' hW' hk => ⟨_, results_cells results43 _ rfl rfl (boxed_kc hr.b1 hk) (boxed_kc hr.b2 hk), ?_, hr.bel.trans (hW'.mono (by have := HB1.out.size; omega))⟩
        have hfs := findTo_some (findTo_some_succ HF.out hSp h0 h1) (n - k)
        rw [show k + 1 + (n - k) = n + 1 by omega] at hfs
        rw [HY.out, hfs]
        exact ⟨pp, cc, rfl, own_kc hr.own hk⟩
    · obtain rfl : k = n + 1 := by omega
      have hltI : ¬ (((n + 1 : Nat) : Int) < (n : Int) + 1) := by omega
      have e26 := Boxed.bel B26.out HBX.out (by have := HW1.out; omega)
      have e30 := Boxed.bel B30.out HBX.out (by have := HW1.out; omega)
      have c26 := e26.cell
      have f26 := e26.frozen
      have c30 := e30.cell
      have f30 := e30.frozen
      have E26 := Lib.hid e26; have E30 := Lib.hid e30
      clear e26 e30
      gi_wp2_with fail
      have hz1 := HW1.out
      have g1 := grownBy_setCell' W (w.heap.size + 1 + 1) (.slice none 0 0)
      have g2 := grownBy_setCell' (W.setCell ⟨w.heap.size + 1 + 1, 0, none⟩ (.slice none 0 0)) (w.heap.size + 1 + 1 + 1) (.int .i64 3)
      refine leave_marks (B := w6.heap.size) Ds _ (HM.out.same fun i hi hl => (g2.block i (by have := g1.size; omega) (by simp; omega)).trans (g1.block i hl (by simp; omega))) fun W' hW' hk => ⟨_, results_cells results43 _ rfl rfl (boxed_kc ((Boxed.set _ E26.out).kept g2 (by simp)) hk) (boxed_kc (Boxed.set _ (Boxed.kept E30.out g1 (by simp))) hk), ?_, ?_⟩
      · rw [HY.out, HF.out]; rfl
      · have hbw : Below w.heap.size w W := HB1.out.trans (HBX.out.mono HB1.out.size)
        have hws := hbw.size
        refine Below.trans ⟨g2.os.trans (g1.os.trans hbw.os), g2.tape.trans (g1.tape.trans hbw.tape), g2.output.trans (g1.output.trans hbw.output), Nat.le_trans hbw.size (Nat.le_trans g1.size g2.size), fun i hi => (g2.block i (by have := g1.size; omega) (by simp; omega)).trans ((g1.block i (by omega) (by simp; omega)).trans (hbw.block i hi))⟩ (hW'.mono (by omega))
end Go.Proofs.Ytmfbfcknnjbabaa

namespace Go.Proofs.Ytmfbfcknnjbabaa
open Go.RowKit Go.Shelf
attribute [local go_sem] Oper.semAt_some

/-- these words alone leave no truth -/
def clashP (ws : List Wd) (l : List Int) : Bool := (hTo (fun k => hasB l (k : Int)) ws ws.length).isNone
def clashL (m : Nat) (k : Nat) : List (List Int) := ext ascB m k []
theorem box_clash (w : World) (W : Int) (p q : Option Addr) (m n c d : Nat) :
    ∃ w1, ((w.alloc (Obj.cells #[Value.int IntKind.i64 W, Value.slice p m c, Value.slice q n d] 25)).alloc (Obj.cells #[Value.slice none 0 0] 26)).alloc (Obj.cells #[Value.int IntKind.i64 0] 30) = w1 ∧ Below w.heap.size w w1 ∧ w1.heap.size = w.heap.size + 1 + 1 + 1 ∧
      w1.cell? ⟨w.heap.size, 0, none⟩ = some (.int .i64 W) ∧ w1.cell? ⟨w.heap.size, 1, none⟩ = some (.slice p m c) ∧ w1.cell? ⟨w.heap.size, 2, none⟩ = some (.slice q n d) ∧
      Boxed w1 (w.heap.size + 1) 26 (.slice none 0 0) ∧ Boxed w1 (w.heap.size + 1 + 1) 30 (.int .i64 0) := by
  refine ⟨_, rfl, bA (bA (bA (Below.refl _ _) _) _) _, by simp, by go_simp, by go_simp, by go_simp, ?_, ?_⟩
  · have := (Boxed.new (w.alloc (.cells #[.int .i64 W, .slice p m c, .slice q n d] 25)) 26 (.slice none 0 0)).alloc (.cells #[.int .i64 0] 30)
    simpa using this
  · have := Boxed.new ((w.alloc (.cells #[.int .i64 W, .slice p m c, .slice q n d] 25)).alloc (.cells #[.slice none 0 0] 26)) 30 (.int .i64 0)
    simpa using this
theorem hear_clash (n : Nat) (ws : List Wd) (xs : List Int) (p p' : Option Addr) (c c' : Nat) (w : World) (a : Addr) (hl : ws.length ≤ 1000) (hx : xs.length ≤ 1000) (hw : ∀ x ∈ ws, x.f < 7 ∧ x.t < 7) (hp : WordsAt w w.heap.size p ws)
    (ha : w.cell? a = some (.slice p' xs.length c')) (hab : a.block < w.heap.size) (hi : Ints w p' xs) :
    Calls Try.prog 69 #[.int .i64 n, .slice p ws.length c, .func (.func 67) #[] #[.pointer (some a)]] w fun e w' =>
      (∃ (n' : Int) (M' : List Int), M'.length = 49 ∧ e = .returned (.tuple #[.agg (kv n' M'), .bool (!clashP ws xs)])) ∧ Below w.heap.size w w' := by
  refine (hearSome_any n ws (fun k => hasB xs (k : Int)) p c w a hl hw hp (fun k W _ hW => clash1_ex a xs p' c' k W (by omega) ((hW.cell hab).trans ha) fun h0 => ?_)).mono ?_
  · obtain ⟨b, o, e, hb⟩ := hi h0
    exact ⟨b, o, e, (hb.below hW).mono hW.size⟩
  · rintro e w' ⟨rfl, hb⟩
    refine ⟨?_, hb⟩
    unfold clashP
    cases h : hTo (fun k => hasB xs (k : Int)) ws ws.length with
    | none => exact ⟨0, Z49, rfl, rfl⟩
    | some M => exact ⟨n, M, hTo_len h, rfl⟩
theorem results37 : Try.f37.results = #[.cell 2 26, .cell 3 30] := Try.results37
theorem learn_no (T : Town) (p q : Option Addr) (c d : Nat) (w : World) (hok : T.ok = true) (hk : kn T = none) (ht : TownIn w w.heap.size T p q) :
    Calls Try.prog 58 #[.agg #[.int .i64 T.W, .slice p T.s.length c, .slice q T.r.length d], .slice none 0 0] w fun e w' => e = .returned (.tuple #[.agg (kv 0 Z49), .int .i64 3]) ∧ Below w.heap.size w w' := by
  have hl := ok_len hok
  have h := learn_any T p q c d [] none 0 w (by omega) (by omega) (by simp) ht (fun h => by simp at h)
  have e : learnt T [] = (0, Z49, 3) := by simp [learnt, hok, asks, hk]
  rw [e] at h
  exact h

set_option maxRecDepth 100000 in
set_option maxHeartbeats 2000000 in
theorem clash_no (T : Town) (n m : Nat) (p q : Option Addr) (c d : Nat) (w : World) (hok : T.ok = true) (hk : kn T = none) (hn : T.W = n) (hm : T.s.length + T.r.length = m) (ht : TownIn w w.heap.size T p q) :
    CallsIn Fence.wide 9 Try.prog 37 #[.agg #[.int .i64 T.W, .slice p T.s.length c, .slice q T.r.length d]] w fun e w' => RetL w w' (findTo (clashP (words T)) (clashL m) (m + 1)) e ∧ Below w.heap.size w w' := by
  rw [hn]
  obtain ⟨w1, hw1, hb1, hz1, k0, k1, k2, b26, b30⟩ := box_clash w (n : Int) p q T.s.length T.r.length c d
  have hl1 : w.heap.size < w1.heap.size := by omega
  have hlen := ok_len hok
  have hm16 : m ≤ 16 := by omega
  have hwl : (words T).length = m := by rw [words_len, hm]
  have hwok := words_ok hok
  have hlearn : ∀ W, Below w1.heap.size w1 W → Calls Try.prog 58 #[.agg #[.int .i64 n, .slice p T.s.length c, .slice q T.r.length d], .slice none 0 0] W fun e w' =>
      e = .returned (.tuple #[.agg (kv 0 Z49), .int .i64 3]) ∧ Below W.heap.size W w' := fun W hW => by
    have := learn_no T p q c d W hok hk ((ht.below (bT hb1 hW)).mono (bT hb1 hW).size)
    rw [hn] at this
    exact this
  have hwords : ∀ W, Below w1.heap.size w1 W → Calls Try.prog 64 #[.agg #[.int .i64 n, .slice p T.s.length c, .slice q T.r.length d]] W fun e w' => ∃ v, e = .returned v ∧ w'.ownsRow W.heap.size 111 4 v m (flat4 (words T)) ∧ Below W.heap.size W w' := fun W hW => by
    have := wordsOf_any T p q c d W hok ((ht.below (bT hb1 hW)).mono (bT hb1 hW).size)
    rw [hn, hm] at this
    exact this
  have hhear : ∀ (V : World) (b g : Nat) (pw : Option Addr) (cw : Nat) (xs : List Int), WordsAt V V.heap.size pw (words T) → xs.length ≤ 1000 → Boxed V b 26 (.slice (some ⟨g, 0, none⟩) xs.length xs.length) → IntsAt V V.heap.size g 0 xs →
      Calls Try.prog 69 #[.int .i64 n, .slice pw m cw, .func (.func 67) #[] #[.pointer (some ⟨b, 0, none⟩)]] V fun e w' => (∃ (n' : Int) (M' : List Int), M'.length = 49 ∧ e = .returned (.tuple #[.agg (kv n' M'), .bool (!clashP (words T) xs)])) ∧ Below V.heap.size V w' := fun V b g pw cw xs hwa hx hbx hi => by
    have := hear_clash n (words T) xs pw (some ⟨g, 0, none⟩) cw xs.length V ⟨b, 0, none⟩ (by omega) hx hwok hwa hbx.cell hbx.lt (fun _ => ⟨g, 0, rfl, hi⟩)
    rw [hwl] at this
    exact this
  have HWL := Lib.hid hwl
  have HL := Lib.hid hlearn; have HWO := Lib.hid hwords; have HHE := Lib.hid hhear; have HW1 := Lib.hid hz1; have B26 := Lib.hid b26; have B30 := Lib.hid b30; have HB1 := Lib.hid hb1
  clear hlearn hwords hhear hb1 hz1 ht hok hk b26 b30 hwl hwok hm
  refine callsIn_of_wp_marks Try.func37 rfl trivial ?_ rfl
  simp only [Try.ntmps37, List.size_toArray, List.length_cons, List.length_nil, Nat.reduceAdd, Nat.reduceSub, Array.replicate_succ, Array.replicate_zero, List.push_toArray, List.append_toArray, List.nil_append, List.cons_append]
  gi_wp2_with (first
    | (refine ⟨trivial, ?_⟩; gi_at_call 58; refine (callsIn_wide.2 (HL.out _ (Below.refl _ _))).mono ?_; rintro e w2 ⟨rfl, hb2⟩; go_must (have HB2 := Lib.hid hb2; clear hb2))
    | (refine wpListIn_alloc_kv rfl rfl ?_; intro w3 hr3 hb3 hz3; go_must (have HR3 := Lib.hid hr3; have HB3 := Lib.hid hb3; have HZ3 := Lib.hid hz3; clear hr3 hb3 hz3))
    | (refine wpListIn_store_kv rfl _ _ rfl _ 0 0 Z49 Z49 rfl rfl rfl HR3.out ?_; intro w4 hr4 ho4; go_must (have HR4 := Lib.hid hr4; have HB4 := Lib.hid (bT HB2.out (row_only HB3.out ho4)); have q0 := (HB4.out.cell (p := ⟨w.heap.size, 0, none⟩) hl1).trans k0; have q1 := (HB4.out.cell (p := ⟨w.heap.size, 1, none⟩) hl1).trans k1; have q2 := (HB4.out.cell (p := ⟨w.heap.size, 2, none⟩) hl1).trans k2; clear hr4 ho4))
    | (refine ⟨trivial, ?_⟩; gi_at_call 64; refine (callsIn_wide.2 (HWO.out _ HB4.out)).mono ?_; rintro e w5 ⟨v, rfl, ho5, hb5⟩; go_must (obtain ⟨pw, cw, rfl, _⟩ := own_form ho5; have HO5 := Lib.hid ho5; have HB5 := Lib.hid (bT HB4.out hb5); clear hb5 ho5)))
  have HB6 := Lib.hid (bA HB5.out (.cells #[.slice pw m cw] 85))
  have b6 : Boxed (w5.alloc (.cells #[.slice pw m cw] 85)) w5.heap.size 85 (.slice pw m cw) := Boxed.new _ _ _
  have ho6 : WordsAt (w5.alloc (.cells #[.slice pw m cw] 85)) (w5.alloc (.cells #[.slice pw m cw] 85)).heap.size pw (words T) :=
    wordsAt_bel (wordsAt_own HO5.out HWL.out.symm) (bA (Below.refl _ _) _)
  obtain ⟨w6, hw6⟩ : ∃ W, w5.alloc (Obj.cells #[Value.slice pw m cw] 85) = W := ⟨_, rfl⟩
  rw [hw6] at b6 ho6 ⊢
  have hz6 : w5.heap.size < w6.heap.size := by rw [← hw6]; simp
  have HB6' : Hid (Below w1.heap.size w1 w6) := by rw [← hw6]; exact HB6.out
  have hz61 := HB6'.out.size
  have B6 := Lib.hid b6; have HO6 := Lib.hid ho6
  have KT := Lib.hid (show w1.cell? ⟨w.heap.size, 0, none⟩ = some (.int .i64 n) ∧ w1.cell? ⟨w.heap.size, 1, none⟩ = some (.slice p T.s.length c) ∧ w1.cell? ⟨w.heap.size, 2, none⟩ = some (.slice q T.r.length d) from ⟨k0, k1, k2⟩)
  clear HB6 hw6 q0 q1 q2 b6 ho6 HL HWO hw1 k0 k1 k2
  refine wpIn_loop (fun a W => ∃ (k : Nat) (Ds : List Nat) (v7 v28 v29 v30 v31 v32 v33 v48 : Value), a = Act.mk
        #[Value.agg #[Value.int IntKind.i64 n, Value.slice p T.s.length c, Value.slice q T.r.length d],
          Value.pointer (some { block := w.heap.size, off := 0 }),
          Value.pointer (some { block := w.heap.size + 1, off := 0 }),
          Value.pointer (some { block := w.heap.size + 1 + 1, off := 0 }),
          Value.pointer (some { block := w2.heap.size, off := 0 }), Value.int IntKind.i64 3,
          Value.pointer (some { block := w5.heap.size, off := 0 }), v7, undef, undef, undef, undef,
          Value.tuple #[Value.agg (kv 0 Z49), Value.int IntKind.i64 3],
          Value.agg #[Value.int IntKind.i64 n, Value.slice p T.s.length c, Value.slice q T.r.length d],
          Value.tuple #[Value.agg (kv 0 Z49), Value.int IntKind.i64 3], Value.agg (kv 0 Z49), Value.int IntKind.i64 3,
          Value.int IntKind.i64 3, Value.bool false, Value.bool false, Value.bool false, Value.bool false,
          Value.agg #[Value.int IntKind.i64 n, Value.slice p T.s.length c, Value.slice q T.r.length d],
          Value.slice pw m cw, Value.slice pw m cw, Value.int IntKind.i64 m, Value.int IntKind.i64 ((m : Int) + 1),
          Value.int IntKind.i64 k, v28, v29, v30, v31, v32, v33, undef, undef, undef, undef, undef,
          undef, undef, undef, undef, undef, undef, undef, undef, undef, v48] (Ds.map mkD) ∧ k ≤ m + 1 ∧ Marks w6.heap.size W Ds ∧ Below w6.heap.size w6 W ∧ findTo (clashP (words T)) (clashL m) k = none)
    (fun a _ => m + 1 - (intOf (a.tmps.getD 27 undef)).toNat) ?start ?round
  case start => exact ⟨0, [], _, _, _, _, _, _, _, _, rfl, by omega, Marks.nil _ _, Below.refl _ _, rfl⟩
  case round =>
    rintro a W ⟨k, Ds, v7, v28, v29, v30, v31, v32, v33, v48, rfl, hk, hm, hb, hf⟩
    have hbx := HB6'.out.trans (hb.mono hz61)
    have HM := Lib.hid hm; have HB := Lib.hid hb; have HBX := Lib.hid hbx; have HF := Lib.hid hf
    have q6 := (Boxed.bel B6.out HB.out hz6).cell
    have hl6 : w6.heap.size ≤ W.heap.size := HB.out.size
    clear hm hb hbx hf
    by_cases hlt : k < m + 1
    · have hltI : (k : Int) < (m : Int) + 1 := by omega
      gi_wp2_with (refine ⟨trivial, ?_⟩; gi_at_call 65; refine (callsIn_wide.2 (lists66_ex _ _ _)).mono ?_; rintro e w7 ⟨rfl, hw7⟩; go_must (have HW7 := Lib.hid hw7; clear hw7))
      have hb7 : Below W.heap.size W w7 := by rw [← HW7.out]; exact bA (bA (bA (Below.refl _ _) _) _) _
      have hz7 : w7.heap.size = W.heap.size + 3 := by rw [← HW7.out]; simp
      have d0 : Boxed w7 W.heap.size 3 (.int .i64 m) := by
        have := ((Boxed.new W 3 (.int .i64 m)).alloc (.cells #[.int .i64 k] 3)).alloc (.cells #[.func (.func 66) #[] #[]] 90)
        rw [← HW7.out]; exact this
      have d1 : Boxed w7 (W.heap.size + 1) 3 (.int .i64 k) := by
        have := (Boxed.new (W.alloc (.cells #[.int .i64 m] 3)) 3 (.int .i64 k)).alloc (.cells #[.func (.func 66) #[] #[]] 90)
        rw [← HW7.out]; simpa using this
      have d2 : Boxed w7 (W.heap.size + 2) 90 (.func (.func 66) #[] #[]) := by
        have := Boxed.new ((W.alloc (.cells #[.int .i64 m] 3)).alloc (.cells #[.int .i64 k] 3)) 90 (.func (.func 66) #[] #[])
        rw [← HW7.out]; simpa using this
      clear HW7
      have hw7 : Below w.heap.size w w7 := HB1.out.trans ((HBX.out.trans (hb7.mono (by omega))).mono HB1.out.size)
      have hb67 : Below w6.heap.size w6 w7 := HB.out.trans (hb7.mono hl6)
      have hm7 := HM.out.below hb7
      have H7 := Lib.hid hw7; have H67 := Lib.hid hb67; have HM7 := Lib.hid hm7; clear hw7 hb67 hm7
      refine rangeF rfl (by omega) (gf := 91) (lb := #[.pointer (some ⟨W.heap.size + 1, 0, none⟩), .pointer (some ⟨W.heap.size, 0, none⟩), .pointer (some ⟨W.heap.size + 2, 0, none⟩)]) rfl trivial (enters_of Try.func91 (by kernel_rfl) rfl)
        (encs := encG) PG (InW (clashP (words T)) w7) (IxW (clashP (words T)) w w7 w6.heap.size (w.heap.size + 1) (w.heap.size + 1 + 1))
        (fun xs => xs.map (fun x => x.2.2) = clashL m k) (fun pre => (pre.map fun x => x.2.2) <+: clashL m k) w6.heap.size (by omega)
        (fun _ => rfl) (fun s A B h k => ⟨h.1.trans k, h.2⟩)
        (fun cd s A r o h hr => h.put hr (by omega) (by have := HB1.out.size; omega))
        ⟨Below.refl _ _, fun x hx => by cases hx⟩ ?seq ?round2 ?done ?stop
      case seq =>
        intro l J Jx V hl1 hl2 hBV hJ hJb hJxb hY h0
        refine callsIn_wide.2 (lists166_any l m k V.heap.size (W.heap.size + 1) W.heap.size (W.heap.size + 2) J Jx V (by omega) (by omega) (Nat.le_refl _) hJ (fun m pre x A hj hp => yieldAny rfl m (hY pre x A hj hp)) ?_ ?_ ?_ ?_ h0)
        · have tr : ∀ A : World, (∀ k, w6.heap.size ≤ k → k < w7.heap.size → A.heap[k]? = w7.heap[k]?) → A.cell? ⟨W.heap.size + 1, 0, none⟩ = some (.int .i64 k) ∧ A.cell? ⟨W.heap.size, 0, none⟩ = some (.int .i64 m) ∧ A.cell? ⟨W.heap.size + 2, 0, none⟩ = some (.func (.func 66) #[] #[]) := fun A h =>
            ⟨(World.cell?_of_block (h (W.heap.size + 1) (by omega) (by omega))).trans d1.cell, (World.cell?_of_block (h W.heap.size (by omega) (by omega))).trans d0.cell, (World.cell?_of_block (h (W.heap.size + 2) (by omega) (by omega))).trans d2.cell⟩
          rintro s A (h | h)
          · exact tr A (hJb _ _ h)
          · exact tr A (hJxb _ _ h)
        · exact (hBV.cell (p := ⟨W.heap.size + 1, 0, none⟩) (by simp only; omega)).trans d1.cell
        · exact (hBV.cell (p := ⟨W.heap.size, 0, none⟩) (by simp only; omega)).trans d0.cell
        · exact (hBV.cell (p := ⟨W.heap.size + 2, 0, none⟩) (by simp only; omega)).trans d2.cell
      case round2 =>
        rintro l pre ⟨g, m1, xs⟩ V hl ⟨r, hr⟩ hI ⟨hx0, hx1, hx2⟩
        dsimp only at hx0 hx1 hx2
        subst hx0
        simp only [encG]
        have HX2 := Lib.hid hx2; have HR := Lib.hid hr; have HI := Lib.hid hI
        clear hx2 hr hI d0 d1 d2 q6
        gi_wp2
        refine ⟨bA (Below.refl _ _) _, fun V2 hg2 hs2 hI2 => ?_⟩
        have hr1 : (V.alloc (.cells #[.slice (some ⟨g, 0, none⟩) xs.length xs.length] 26)).heap[l]? = some (.loop r) := (Below.heap_alloc V _ l (Array.getElem?_eq_some_iff.1 HR.out).1).trans HR.out
        have hll := (Array.getElem?_eq_some_iff.1 HR.out).1
        have hi2 := ints_grown ((HX2.out.below (bA (Below.refl _ _) (.cells #[.slice (some ⟨g, 0, none⟩) xs.length xs.length] 26))).mono (B' := (V.alloc (.cells #[.slice (some ⟨g, 0, none⟩) xs.length xs.length] 26)).heap.size) (by simp)) hr1 hg2
        have hbox : Boxed V2 V.heap.size 26 (.slice (some ⟨g, 0, none⟩) xs.length xs.length) := (hg2.block V.heap.size (by simp) (by simp; omega)).trans (heap_alloc_new V _)
        have hb67 : Below w6.heap.size w6 V2 := H67.out.trans (hI2.1.mono (by omega))
        have hb2 : Below w1.heap.size w1 V2 := HB6'.out.trans (hb67.mono (by omega))
        have q0 := (hb2.cell (p := ⟨w.heap.size, 0, none⟩) hl1).trans KT.out.1
        have q6 := (Boxed.bel B6.out hb67 hz6).cell
        have hcall := HHE.out V2 V.heap.size g pw cw xs (wordsAt_bel HO6.out hb67) hx1 hbox hi2
        have HG2 := Lib.hid hg2; have HS2 := Lib.hid hs2; have HI2 := Lib.hid hI2; have HII := Lib.hid hi2; have HBB := Lib.hid hb2; have HBO := Lib.hid hbox
        clear hg2 hs2 hI2 hi2 hb2 hb7 hb67 hbox hr1
        cases hp : clashP (words T) xs with
        | false =>
          rw [hp] at hcall
          simp only [Bool.not_false] at hcall
          have HCA := Lib.hid hcall; have HP := Lib.hid hp
          clear hcall hp
          gi_wp2_with (first
            | (refine ⟨trivial, ?_⟩; gi_at_call 69; refine (CallsIn.inRound l (callsIn_wide.2 HCA.out)).mono ?_; rintro e w8 ⟨⟨n', M', hM', rfl⟩, hb8⟩; go_must (have HB8 := Lib.hid hb8; clear hb8))
            | (refine wpListIn_alloc_kv rfl rfl ?_; intro w9 hr9 hb9 hz9; go_must (have HR9 := Lib.hid hr9; have HB9 := Lib.hid hb9; clear hr9 hb9))
            | (refine wpListIn_store_kv rfl _ _ rfl _ n' 0 M' Z49 rfl rfl hM' HR9.out ?_; intro w10 hr10 ho10; go_must (have HB10 := Lib.hid (bT HB8.out (row_only HB9.out ho10)); clear hr10 ho10)))
          refine ⟨Kp.of_below HB10.out, HI2.out.1.trans (HB10.out.mono HI2.out.1.size), fun y hy => ?_⟩
          rcases List.mem_append.1 hy with hy | hy
          · exact HI2.out.2 y hy
          · obtain rfl := List.mem_singleton.1 hy; exact HP.out
        | true =>
          rw [hp] at hcall
          simp only [Bool.not_true] at hcall
          have HCA := Lib.hid hcall; have HP := Lib.hid hp
          clear hcall hp
          gi_wp2_with (first
            | (refine ⟨trivial, ?_⟩; gi_at_call 69; refine (CallsIn.inRound l (callsIn_wide.2 HCA.out)).mono ?_; rintro e w8 ⟨⟨n', M', hM', rfl⟩, hb8⟩; go_must (have HB8 := Lib.hid hb8; clear hb8))
            | (refine wpListIn_alloc_kv rfl rfl ?_; intro w9 hr9 hb9 hz9; go_must (have HR9 := Lib.hid hr9; have HB9 := Lib.hid hb9; clear hr9 hb9))
            | (refine wpListIn_store_kv rfl _ _ rfl _ n' 0 M' Z49 rfl rfl hM' HR9.out ?_; intro w10 hr10 ho10; go_must (have HB10 := Lib.hid (bT HB8.out (row_only HB9.out ho10)); have qb := Boxed.cell (Boxed.bel HBO.out HB10.out HBO.out.lt); clear hr10 ho10))
            | (refine ⟨trivial, ?_⟩; gi_at_call 70; refine (CallsIn.inRound l (callsIn_wide.2 (clone_any xs g xs.length w10 hx1 ((HII.out.below HB10.out).mono HB10.out.size)))).mono ?_; rintro e w11 ⟨v, rfl, ho9, hb9⟩; go_must (obtain ⟨pp, cc, rfl, _⟩ := own_form ho9; have hb29 := bT HB10.out hb9; have e26 := Boxed.bel (Boxed.bel B26.out HBB.out (by have := HW1.out; omega)) hb29 (by have := HBB.out.size; have := HW1.out; omega); have e30 := Boxed.bel (Boxed.bel B30.out HBB.out (by have := HW1.out; omega)) hb29 (by have := HBB.out.size; have := HW1.out; omega); have c26 := e26.cell; have f26 := e26.frozen; have c30 := e30.cell; have f30 := e30.frozen; have E26 := Lib.hid e26; have E30 := Lib.hid e30; have HO9 := Lib.hid ho9; have HB29 := Lib.hid hb29; clear e26 e30 ho9 hb9 hb29)))
          have z1 := HW1.out
          have z8 := HB10.out.size
          have z2 := HI2.out.1.size
          refine ⟨(Kp.of_below HB29.out).trans ((Kp.set_at w11 _ _ (by omega)).trans (Kp.set_at _ _ _ (by omega))), rfl, pre, (g, xs.length, xs), pp, cc, rfl, HI2.out.2, HP.out,
            retAt_mk rfl (by omega) E26.out E30.out HO9.out (HI2.out.1.trans (HB29.out.mono HI2.out.1.size)) H7.out (by omega) (by omega) (by omega) (by omega) (by omega) (by omega)⟩
      case done =>
        rintro D xs W9 hD hS hI hK
        gi_wp2_with fail
        refine ⟨⟨k + 1, D :: Ds, _, _, _, _, _, _, _, _, rfl, by omega, HM7.out.cons (by omega) hD hK (fun i _ hl => hI.1.block i hl), H67.out.trans (hI.1.mono (by omega)), findTo_none_succ HF.out hS hI.2⟩, ?_⟩
        simp [intOf]; omega
      case stop =>
        rintro D cd pre W9 hD hSp ⟨rfl, hx⟩ hK
        gi_wp2_with fail
        obtain ⟨pre0, x, pp, cc, rfl, h0, h1, hr⟩ := hx
        refine leave_marks (B := w6.heap.size) (D :: Ds) W9 (HM7.out.cons (by omega) hD hK hr.same) fun W' hW' hk => ⟨_, results_cells results37 _ rfl rfl (boxed_kc hr.b1 hk) (boxed_kc hr.b2 hk), ?_, hr.bel.trans (hW'.mono (by have := HB1.out.size; omega))⟩
        have hfs := findTo_some (findTo_some_succ HF.out hSp h0 h1) (m - k)
        rw [show k + 1 + (m - k) = m + 1 by omega] at hfs
        rw [hfs]
        exact ⟨pp, cc, rfl, own_kc hr.own hk⟩
    · obtain rfl : k = m + 1 := by omega
      have hltI : ¬ (((m + 1 : Nat) : Int) < (m : Int) + 1) := by omega
      have e26 := Boxed.bel B26.out HBX.out (by have := HW1.out; omega)
      have e30 := Boxed.bel B30.out HBX.out (by have := HW1.out; omega)
      have c26 := e26.cell
      have f26 := e26.frozen
      have c30 := e30.cell
      have f30 := e30.frozen
      have E26 := Lib.hid e26; have E30 := Lib.hid e30
      clear e26 e30
      gi_wp2_with fail
      have hz1 := HW1.out
      have g1 := grownBy_setCell' W (w.heap.size + 1) (.slice none 0 0)
      have g2 := grownBy_setCell' (W.setCell ⟨w.heap.size + 1, 0, none⟩ (.slice none 0 0)) (w.heap.size + 1 + 1) (.int .i64 3)
      refine leave_marks (B := w6.heap.size) Ds _ (HM.out.same fun i hi hl => (g2.block i (by have := g1.size; omega) (by simp; omega)).trans (g1.block i hl (by simp; omega))) fun W' hW' hk => ⟨_, results_cells results37 _ rfl rfl (boxed_kc ((Boxed.set _ E26.out).kept g2 (by simp)) hk) (boxed_kc (Boxed.set _ (Boxed.kept E30.out g1 (by simp))) hk), ?_, ?_⟩
      · rw [HF.out]; rfl
      · have hbw : Below w.heap.size w W := HB1.out.trans (HBX.out.mono HB1.out.size)
        have hws := hbw.size
        refine Below.trans ⟨g2.os.trans (g1.os.trans hbw.os), g2.tape.trans (g1.tape.trans hbw.tape), g2.output.trans (g1.output.trans hbw.output), Nat.le_trans hbw.size (Nat.le_trans g1.size g2.size), fun i hi => (g2.block i (by have := g1.size; omega) (by simp; omega)).trans ((g1.block i (by omega) (by simp; omega)).trans (hbw.block i hi))⟩ (hW'.mono (by omega))
end Go.Proofs.Ytmfbfcknnjbabaa
