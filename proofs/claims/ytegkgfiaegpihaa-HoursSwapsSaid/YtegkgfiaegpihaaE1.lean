/- An evaluator of closed calls: it reckons with blocks by names of its own, whatever the capacities and the orders that the tape gives. Its operations. -/
import Derived.Orders
import Derived.Below
import Derived.Scope
set_option linter.unusedSimpArgs false
set_option linter.unusedVariables false
namespace Go.Proofs.Ytegkgfiaegpihaa
noncomputable section
open Go

def ob {α β : Type} (o : Option α) (f : α → Option β) : Option β := Option.rec (motive := fun _ => Option β) none f o
def cnd {α : Type} (b : Bool) (x y : α) : α := Bool.rec (motive := fun _ => α) y x b
theorem ob_some {α β : Type} (a : α) (f : α → Option β) : ob (some a) f = f a := rfl
theorem ob_none {α β : Type} (f : α → Option β) : ob none f = none := rfl
theorem ob_eq {α β : Type} {o : Option α} {f : α → Option β} {r : β} : ob o f = some r ↔ ∃ a, o = some a ∧ f a = some r := by
  cases o <;> simp [ob]
theorem cnd_true {α : Type} (x y : α) : cnd true x y = x := rfl
theorem cnd_false {α : Type} (x y : α) : cnd false x y = y := rfl
theorem cnd_eq {α : Type} {b : Bool} {x : Option α} {r : α} : cnd b x none = some r ↔ b = true ∧ x = some r := by
  cases b <;> simp [cnd]

/-- a table by numbers -/
inductive Tr (α : Type) where
  | leaf
  | node (l : Tr α) (v : Option α) (r : Tr α)
def half (k : Nat) : Nat := Nat.div k 2
def halfP (k : Nat) : Nat := Nat.sub (Nat.div k 2) 1
def isOdd (k : Nat) : Bool := Nat.beq (Nat.mod k 2) 1
def Tr.get {α : Type} (t : Tr α) : Nat → Option α :=
  Tr.rec (motive := fun _ => Nat → Option α) (fun _ => none) (fun _ v _ ihl ihr k => cnd (Nat.beq k 0) v (cnd (isOdd k) (ihl (half k)) (ihr (halfP k)))) t
def Tr.setF {α : Type} (v : α) (n : Nat) : Tr α → Nat → Tr α :=
  Nat.rec (motive := fun _ => Tr α → Nat → Tr α) (fun t _ => t)
    (fun _ ih t k => Tr.rec (motive := fun _ => Tr α)
      (cnd (Nat.beq k 0) (.node .leaf (some v) .leaf) (cnd (isOdd k) (.node (ih .leaf (half k)) none .leaf) (.node .leaf none (ih .leaf (halfP k)))))
      (fun l u r _ _ => cnd (Nat.beq k 0) (.node l (some v) r) (cnd (isOdd k) (.node (ih l (half k)) u r) (.node l u (ih r (halfP k))))) t) n
def Tr.set {α : Type} (t : Tr α) (k : Nat) (v : α) : Tr α := Tr.setF v (Nat.succ k) t k

/-- a value, whose blocks have names -/
inductive AV where
  | flat (v : Value)
  | ptr (b o : Nat)
  | sl (b o n c : Nat) (ex : Bool)
  | mp (b : Nat)
  | fn (f : Fn) (first cap : List AV)
  | ifc (t : TypeId) (v : AV)
  | ag (cs : List AV)
  | tp (vs : List AV)
  | yl (b : Nat)
inductive AE where
  | normal | exit (id : Nat) | goto (l : Nat) | ret
inductive LSt where
  | ready | busy | done (x : AE)
inductive AObj where
  | cells (cs : List AV) (elem : TypeId)
  | map (es : List MapEntry) (clock : Nat)
  | dead
  | glob (g : Nat) (vs : List Value)
  | loop (T : Tr AV) (sz : Nat) (ps : List Nat) (as body : Code) (st : LSt)
structure AH where
  objs : Tr AObj
  next : Nat

def AH.empty : AH := ⟨.leaf, 0⟩
def AH.new (h : AH) (o : AObj) : AH := ⟨h.objs.set h.next o, Nat.succ h.next⟩
def AH.put (h : AH) (b : Nat) (o : AObj) : AH := ⟨h.objs.set b o, h.next⟩
def cellsOfObj : AObj → Option (List AV × TypeId)
  | .cells cs e => some (cs, e)
  | _ => none
def mapOfObj : AObj → Option (List MapEntry × Nat)
  | .map es c => some (es, c)
  | _ => none
def AH.cells? (h : AH) (b : Nat) : Option (List AV × TypeId) := ob (h.objs.get b) cellsOfObj
def AH.map? (h : AH) (b : Nat) : Option (List MapEntry × Nat) := ob (h.objs.get b) mapOfObj

def AV.undef : AV := .flat (.tuple #[])
def AV.unflat : AV → Option Value
  | .flat v => some v
  | _ => none
def unflats (l : List AV) : Option (List Value) :=
  List.rec (motive := fun _ => Option (List Value)) (some []) (fun x _ ih => ob x.unflat fun v => ob ih fun vs => some (v :: vs)) l
def flats (l : List Value) : List AV := List.rec (motive := fun _ => List AV) [] (fun v _ ih => .flat v :: ih) l
def mapA (ρ : Operand → AV) (l : List Operand) : List AV := List.rec (motive := fun _ => List AV) [] (fun x _ ih => ρ x :: ih) l
def allOne (f : AV → Bool) (l : List AV) : Bool := List.rec (motive := fun _ => Bool) true (fun x _ ih => cnd (f x) ih false) l
def lenL {α : Type} (l : List α) : Nat := List.rec (motive := fun _ => Nat) 0 (fun _ _ ih => Nat.succ ih) l
def appL {α : Type} (l m : List α) : List α := List.rec (motive := fun _ => List α) m (fun x _ ih => x :: ih) l
def nth {α : Type} (l : List α) : Nat → Option α :=
  List.rec (motive := fun _ => Nat → Option α) (fun _ => none) (fun x _ ih k => cnd (Nat.beq k 0) (some x) (ih (Nat.pred k))) l
def optOr {α : Type} (o : Option α) (d : α) : α := Option.rec (motive := fun _ => α) d (fun a => a) o
def optCase {α β : Type} (o : Option α) (d : β) (f : α → β) : β := Option.rec (motive := fun _ => β) d f o
def mkAg (cs : List AV) : AV := optCase (unflats cs) (.ag cs) fun vs => .flat (.agg ⟨vs⟩)
def mkTp (cs : List AV) : AV := optCase (unflats cs) (.tp cs) fun vs => .flat (.tuple ⟨vs⟩)
def valCells : Value → List AV
  | .agg cs => flats cs.toList
  | v => [.flat v]
def AV.cells : AV → List AV
  | .ag cs => cs
  | .flat v => valCells v
  | v => [v]
def AV.one : AV → Bool
  | .flat v => v.oneCell'
  | .ag _ => false
  | .tp _ => false
  | _ => true

/-- what a program of operations comes to, whatever the memory is -/
def pureRun {α : Type} (P : Program) : Sem α → Option α
  | .pure a => some a
  | .program k => pureRun P (k P)
  | .mark _ k => pureRun P k
  | .choose q k => if q.forced then pureRun P (k 0) else none
  | _ => none
def mapFlat (o : Option Value) : Option AV := ob o fun v => some (.flat v)

/-- of a type: whether it is made of cells, their number, its zero -/
def aggDesc : TypeDesc → Bool
  | .struct _ => true
  | .array _ _ => true
  | _ => false
def isAggB (P : Program) (t : TypeId) : Option Bool := ob (P.underlying t) fun d => some (aggDesc d)
def sizeB (P : Program) (t : TypeId) : Option Nat := ob (P.info? t) fun i => some i.size
def zeroB (P : Program) (t : TypeId) : Option Value := ob (P.info? t) fun i => i.zero
def sliceElem (P : Program) (t : TypeId) : Option TypeId := ob (P.underlying t) fun d => match d with
  | .slice e => some e
  | _ => none
def structOf (P : Program) (t : TypeId) : Option (List Field) := ob (P.underlying t) fun d => match d with
  | .struct fs => some fs.toList
  | _ => none
def arrayOf (P : Program) (t : TypeId) : Option (Nat × TypeId) := ob (P.underlying t) fun d => match d with
  | .array n e => some (n, e)
  | _ => none
def mapOf (P : Program) (t : TypeId) : Option (TypeId × TypeId) := ob (P.underlying t) fun d => match d with
  | .map k e => some (k, e)
  | _ => none
def pointerOf (P : Program) (t : TypeId) : Option TypeId := ob (P.underlying t) fun d => match d with
  | .pointer e => some e
  | _ => none

/-- n cells from place o on -/
def takeN (l : List AV) : Nat → Option (List AV) :=
  List.rec (motive := fun _ => Nat → Option (List AV)) (fun n => cnd (Nat.beq n 0) (some []) none)
    (fun c _ ih n => cnd (Nat.beq n 0) (some []) (ob (ih (Nat.pred n)) fun r => some (c :: r))) l
def takeAt (l : List AV) : (o n : Nat) → Option (List AV) :=
  List.rec (motive := fun _ => Nat → Nat → Option (List AV)) (fun _ n => cnd (Nat.beq n 0) (some []) none)
    (fun c cs ih o n => cnd (Nat.beq o 0) (takeN (c :: cs) n) (ih (Nat.pred o) n)) l
/-- cells laid from place o on -/
def layN (l : List AV) : List AV → Option (List AV) :=
  List.rec (motive := fun _ => List AV → Option (List AV)) (fun vs => List.rec (motive := fun _ => Option (List AV)) (some []) (fun _ _ _ => none) vs)
    (fun c cs ih vs => List.rec (motive := fun _ => Option (List AV)) (some (c :: cs)) (fun v rest _ => ob (ih rest) fun r => some (v :: r)) vs) l
def layAt (l : List AV) : (o : Nat) → List AV → Option (List AV) :=
  List.rec (motive := fun _ => Nat → List AV → Option (List AV)) (fun o vs => cnd (Nat.beq o 0) (layN [] vs) none)
    (fun c cs ih o vs => cnd (Nat.beq o 0) (layN (c :: cs) vs) (ob (ih (Nat.pred o) vs) fun r => some (c :: r))) l

/-- a variable of a type out of cells -/
def varOf (P : Program) (t : TypeId) (cs : List AV) (o : Nat) : Option AV :=
  ob (isAggB P t) fun is => cnd is (ob (sizeB P t) fun n => ob (takeAt cs o n) fun r => some (mkAg r)) (nth cs o)
def globOf (g : Nat) : AObj → Option (List Value)
  | .glob g' vs => cnd (Nat.beq g' g) (some vs) none
  | _ => none
def loadGlob (P : Program) (h : AH) (t : TypeId) : Value → Option AV
  | .pointer (some ⟨g, o, none⟩) => ob (h.objs.get g) fun x => ob (globOf g x) fun vs => varOf P t (flats vs) o
  | _ => none
def loadA (P : Program) (h : AH) (t : TypeId) : AV → Option AV
  | .ptr b o => ob (h.cells? b) fun x => varOf P t x.1 o
  | .flat v => loadGlob P h t v
  | _ => none
def storeA (P : Program) (h : AH) (t : TypeId) (v : AV) : AV → Option AH
  | .ptr b o => ob (h.cells? b) fun x => ob (sizeB P t) fun n =>
      cnd (Nat.beq (lenL v.cells) n) (cnd (allOne AV.one v.cells) (ob (layAt x.1 o v.cells) fun r => some (h.put b (.cells r x.2))) none) none
  | _ => none

def fillA (place : Nat → Option (Nat × Nat)) (parts : List (Nat × AV)) : List AV → Option (List AV) :=
  List.rec (motive := fun _ => List AV → Option (List AV)) (fun cells => some cells)
    (fun p _ ih cells => ob (place p.1) fun q => cnd (Nat.beq (lenL p.2.cells) q.2) (ob (layAt cells q.1 p.2.cells) ih) none) parts
def fieldPlaces (P : Program) (fs : List Field) : Option (List (Nat × Nat)) :=
  List.rec (motive := fun _ => Option (List (Nat × Nat))) (some []) (fun f _ ih => ob (sizeB P f.type) fun n => ob ih fun r => some ((f.offset, n) :: r)) fs
def mapParts (ρ : Operand → AV) (l : List (Nat × Operand)) : List (Nat × AV) := List.rec (motive := fun _ => List (Nat × AV)) [] (fun p _ ih => (p.1, ρ p.2) :: ih) l
def buildStruct (P : Program) (z : Value) (parts : List (Nat × AV)) (fs : List Field) : Option AV :=
  ob (fieldPlaces P fs) fun pl => ob (fillA (nth pl) parts (valCells z)) fun r => some (mkAg r)
def buildArray (P : Program) (z : Value) (parts : List (Nat × AV)) (e : TypeId) : Option AV :=
  ob (sizeB P e) fun n => ob (fillA (fun i => some (Nat.mul i n, n)) parts (valCells z)) fun r => some (mkAg r)
def buildDesc (P : Program) (z : Value) (parts : List (Nat × AV)) : TypeDesc → Option AV
  | .struct fs => buildStruct P z parts fs.toList
  | .array _ e => buildArray P z parts e
  | _ => none
def buildA (P : Program) (t : TypeId) (parts : List (Nat × AV)) : Option AV :=
  ob (zeroB P t) fun z => ob (P.underlying t) (buildDesc P z parts)

def repeatA (z : List AV) (n : Nat) : List AV := Nat.rec (motive := fun _ => List AV) [] (fun _ ih => appL z ih) n
def buildSliceA (P : Program) (b : Nat) (t : TypeId) (len : Nat) (parts : List (Nat × AV)) : Option (AV × AObj) :=
  ob (sliceElem P t) fun e => ob (sizeB P e) fun n => cnd (Nat.beq n 0) none (cnd (Nat.ble (Nat.mul len n) 65536)
    (ob (zeroB P e) fun z => cnd (Nat.beq (lenL (valCells z)) n)
      (ob (fillA (fun i => some (Nat.mul i n, n)) parts (repeatA (valCells z) len)) fun r => some (.sl b 0 len len true, .cells r e)) none) none)

def natOf : AV → Option Nat
  | .flat (.int _ (.ofNat n)) => some n
  | _ => none
def makeSliceA (P : Program) (b : Nat) (t : TypeId) (l c : AV) : Option (AV × AObj) :=
  ob (natOf l) fun l => ob (natOf c) fun c => ob (sliceElem P t) fun e => ob (P.info? e) fun i => ob i.zero fun z =>
    cnd (Nat.ble l c) (cnd (Nat.ble c 4096) (cnd (Nat.ble i.bytes 4096) (cnd (Nat.beq (lenL (valCells z)) i.size)
      (some (.sl b 0 l c true, .cells (repeatA (valCells z) c) e)) none) none) none) none

def boundA (v : Option AV) (d y : Nat) : Option Nat :=
  optCase v (some d) fun x => ob (natOf x) fun i => cnd (Nat.ble i y) (some i) none
/-- the bounds of a reslice: low, high, max and whether the last is known -/
def boundsA (n c : Nat) (ex : Bool) (lo hi mx : Option AV) : Option (Nat × Nat × Nat × Bool) :=
  ob (boundA mx c c) fun m => ob (optCase mx (boundA hi n m) fun _ => optCase hi none fun _ => boundA hi n m) fun h => ob (boundA lo 0 h) fun l => some (l, h, m, optCase mx ex fun _ => true)
def sliceSl (P : Program) (t : TypeId) (b o n c : Nat) (ex : Bool) (lo hi mx : Option AV) : Option AV :=
  ob (sliceElem P t) fun e => ob (sizeB P e) fun size => ob (boundsA n c ex lo hi mx) fun q =>
    cnd q.2.2.2 (some (.sl b (cnd (Nat.beq q.2.2.1 q.1) o (Nat.add o (Nat.mul q.1 size))) (Nat.sub q.2.1 q.1) (Nat.sub q.2.2.1 q.1) true))
      (cnd (Nat.beq q.1 0) (some (.sl b o q.2.1 q.2.2.1 false)) (cnd (Nat.ble (Nat.succ q.1) q.2.2.1) (cnd (Nat.beq size 0) none (some (.sl b (Nat.add o (Nat.mul q.1 size)) (Nat.sub q.2.1 q.1) (Nat.sub q.2.2.1 q.1) false))) none))
def slicePtr (P : Program) (t : TypeId) (b o : Nat) (lo hi mx : Option AV) : Option AV :=
  ob (arrayOf P t) fun a => ob (sizeB P a.2) fun size => ob (boundsA a.1 a.1 true lo hi mx) fun q =>
    some (.sl b (cnd (Nat.beq q.2.2.1 q.1) o (Nat.add o (Nat.mul q.1 size))) (Nat.sub q.2.1 q.1) (Nat.sub q.2.2.1 q.1) true)
def omapA (ρ : Operand → AV) (o : Option Operand) : Option AV := optCase o none fun x => some (ρ x)
def omapV (ρ : Operand → AV) (o : Option Operand) : Option (Option Value) := optCase o (some none) fun x => ob (ρ x).unflat fun v => some (some v)
def sliceOpA (P : Program) (ρ : Operand → AV) (t : TypeId) (lo hi mx : Option Operand) : AV → Option AV
  | .flat v => ob (omapV ρ lo) fun lo => ob (omapV ρ hi) fun hi => ob (omapV ρ mx) fun mx => mapFlat (pureRun P (Instr.sliceAt t v lo hi mx))
  | .sl b o n c ex => sliceSl P t b o n c ex (omapA ρ lo) (omapA ρ hi) (omapA ρ mx)
  | .ptr b o => slicePtr P t b o (omapA ρ lo) (omapA ρ hi) (omapA ρ mx)
  | _ => none

def indexAddrA (P : Program) (t : TypeId) (x ix : AV) : Option AV :=
  ob (natOf ix) fun i => match x with
    | .ptr b o => ob (arrayOf P t) fun a => ob (sizeB P a.2) fun size => cnd (Nat.ble (Nat.succ i) a.1) (some (.ptr b (Nat.add o (Nat.mul i size)))) none
    | .sl b o n _ _ => ob (sliceElem P t) fun e => ob (sizeB P e) fun size => cnd (Nat.ble (Nat.succ i) n) (some (.ptr b (Nat.add o (Nat.mul i size)))) none
    | .flat v => ob ix.unflat fun u => mapFlat (pureRun P (Instr.indexAt t v u))
    | _ => none
def fieldAddrA (P : Program) (s : TypeId) (f : Nat) : AV → Option AV
  | .ptr b o => ob (structOf P s) fun fs => ob (nth fs f) fun fd => ob (sizeB P fd.type) fun n => cnd (Nat.beq n 0) none (some (.ptr b (Nat.add o fd.offset)))
  | .flat v => mapFlat (pureRun P (Instr.fieldAt s v f))
  | _ => none
def aggCells : AV → Option (List AV)
  | .ag cs => some cs
  | .flat (.agg cs) => some (flats cs.toList)
  | _ => none
def fieldA (P : Program) (t : TypeId) (f : Nat) (x : AV) : Option AV :=
  ob (structOf P t) fun fs => ob (nth fs f) fun fd => ob (aggCells x) fun cs => varOf P fd.type cs fd.offset
def indexA (P : Program) (t : TypeId) (x ix : AV) : Option AV :=
  match x with
  | .flat (.string s) => ob ix.unflat fun i => mapFlat (pureRun P (Instr.index t (.string s) i))
  | x => ob (natOf ix) fun i => ob (arrayOf P t) fun a => ob (sizeB P a.2) fun n => ob (aggCells x) fun cs => cnd (Nat.ble (Nat.succ i) a.1) (varOf P a.2 cs (Nat.mul i n)) none
def extractA (ix : Nat) : AV → Option AV
  | .tp vs => nth vs ix
  | .flat (.tuple vs) => nth (flats vs.toList) ix
  | _ => none

def mapDesc : TypeDesc → Bool
  | .map _ _ => true
  | _ => false
def lensA (P : Program) (h : AH) (t : TypeId) : AV → Option AV
  | .sl _ _ n _ _ => ob (sliceElem P t) fun _ => some (.flat (goInt n))
  | .mp b => ob (mapOf P t) fun _ => ob (h.map? b) fun x => some (.flat (goInt (lenL x.1)))
  | .ptr _ _ => ob (pointerOf P t) fun a => ob (arrayOf P a) fun n => some (.flat (goInt n.1))
  | .ag _ => ob (arrayOf P t) fun n => some (.flat (goInt n.1))
  | .flat v => mapFlat (pureRun P (Builtin.len_ #[t] 0 #[v]))
  | _ => none

/-- the cells of the elements of a slice or a string, and their number -/
def srcA (h : AH) (size : Nat) : AV → Option (Nat × List AV)
  | .sl b o n _ _ => ob (h.cells? b) fun x => ob (takeAt x.1 o (Nat.mul n size)) fun r => some (n, r)
  | .flat (.slice none n _) => cnd (Nat.beq n 0) (some (0, [])) none
  | .flat (.string s) => cnd (Nat.beq size 1) (some (s.size, flats (s.data.toList.map fun b => .int .u8 b.toNat))) none
  | _ => none
def slStr : TypeDesc → Bool
  | .slice _ => true
  | .string => true
  | _ => false
def appendSl (h : AH) (e size n : Nat) (new : List AV) (b o l c : Nat) (ex : Bool) : Option (AV × AH) :=
  ob (h.cells? b) fun x =>
    cnd (Nat.ble (Nat.add l n) c)
      (ob (layAt x.1 (Nat.add o (Nat.mul l size)) new) fun r => some (.sl b o (Nat.add l n) c ex, h.put b (.cells r x.2)))
      (cnd (Nat.ble l 100000) (cnd (Nat.ble c 100000) (ob (takeAt x.1 o (Nat.mul l size)) fun old => cnd (allOne AV.one old)
        (cnd ex (some (.sl h.next 0 (Nat.add l n) (Nat.add l n) false, h.new (.cells (appL old new) e)))
          (cnd (Nat.beq (lenL x.1) (Nat.add o (Nat.mul l size))) (cnd (Nat.beq o 0) (cnd (Nat.beq x.2 e)
            (some (.sl h.next 0 (Nat.add l n) (Nat.add l n) false, (h.put b .dead).new (.cells (appL old new) e))) none) none) none)) none) none) none)
def appendA (P : Program) (h : AH) (t u : TypeId) (s x : AV) : Option (AV × AH) :=
  ob (sliceElem P t) fun e => ob (P.underlying u) fun d => cnd (slStr d) (ob (P.info? e) fun i => ob i.zero fun z =>
    cnd (Nat.beq i.size 0) none (cnd (Nat.beq i.bytes 0) none (cnd (Nat.ble i.bytes 4096)
    (cnd (Nat.beq (lenL (valCells z)) i.size) (ob (srcA h i.size x) fun q => cnd (allOne AV.one q.2) (cnd (Nat.ble q.1 100000) (match s with
      | .flat (.slice none l c) => cnd (Nat.beq l 0) (cnd (Nat.beq c 0) (cnd (Nat.beq q.1 0) (some (.flat (.slice none 0 0), h)) (some (.sl h.next 0 q.1 q.1 false, h.new (.cells q.2 e)))) none) none
      | .sl b o l c ex => appendSl h e i.size q.1 q.2 b o l c ex
      | _ => none) none) none) none) none))) none
def minN (a b : Nat) : Nat := cnd (Nat.ble a b) a b
def shorten (n : Nat) : AV → AV
  | .sl b o m c ex => .sl b o (minN m n) c ex
  | x => x
def copyA (P : Program) (h : AH) (t : TypeId) (d s : AV) : Option (AV × AH) :=
  ob (sliceElem P t) fun e => ob (sizeB P e) fun size => match d with
    | .sl b o dn _ _ => match s with
      | .sl b' o' sn _ _ => ob (h.cells? b') fun y => ob (takeAt y.1 o' (Nat.mul (minN sn dn) size)) fun new => cnd (allOne AV.one new)
          (ob (h.cells? b) fun x => ob (layAt x.1 o new) fun r => some (.flat (goInt (minN sn dn)), h.put b (.cells r x.2))) none
      | _ => none
    | _ => none

inductive ANx where
  | value (v : AV)
  | enter (f : FuncId) (args : List AV)
  | round (l : Nat) (args : List AV)
  | skip

def callable (P : Program) (f : FuncId) : Bool :=
  optCase (P.funcs[f]?) false fun fn => cnd fn.body.isSome (!(fn.name == "runtime.NumGoroutine")) false

def eqNil (P : Program) (t : TypeId) : AV → AV → Option Bool
  | .sl .., .flat (.slice none _ _) => ob (sliceElem P t) fun _ => some false
  | .flat (.slice none _ _), .sl .. => ob (sliceElem P t) fun _ => some false
  | .ptr .., .flat (.pointer none) => ob (pointerOf P t) fun _ => some false
  | .flat (.pointer none), .ptr .. => ob (pointerOf P t) fun _ => some false
  | .mp _, .flat (.map none) => ob (mapOf P t) fun _ => some false
  | .flat (.map none), .mp _ => ob (mapOf P t) fun _ => some false
  | _, _ => none
/-- the usual operators on whole numbers, ahead of the model's own road -/
def intBin (op : BinOp) (k : IntKind) (a b : Int) : Option Value :=
  match op with
  | .add => some (.int k (k.wrap (Int.add a b)))
  | .sub => some (.int k (k.wrap (Int.sub a b)))
  | .mul => some (.int k (k.wrap (Int.mul a b)))
  | .eql => some (.bool (a == b))
  | .neq => some (.bool (a != b))
  | .lss => some (.bool (a < b))
  | .leq => some (.bool (a ≤ b))
  | .gtr => some (.bool (a > b))
  | .geq => some (.bool (a ≥ b))
  | _ => none
def kindEq (a b : IntKind) : Bool := Nat.beq a.ctorIdx b.ctorIdx
def binGen (P : Program) (op : BinOp) (t : TypeId) (x y : Operand) (a b : Value) : Option AV :=
  mapFlat (pureRun P (do eqGuard op t x y a b; binOp op t a b))
def binFlat (P : Program) (op : BinOp) (t : TypeId) (x y : Operand) (a b : Value) : Option AV :=
  match a, b with
  | .int k m, .int k' n => cnd (kindEq k k') (optCase (intBin op k m n) (binGen P op t x y (.int k m) (.int k' n)) fun v => some (.flat v)) (binGen P op t x y (.int k m) (.int k' n))
  | a, b => binGen P op t x y a b
def eqlOp : BinOp → Option Bool
  | .eql => some true
  | .neq => some false
  | _ => none
def binNil (P : Program) (op : BinOp) (t : TypeId) (a b : AV) : Option AV :=
  ob (eqlOp op) fun e => ob (eqNil P t a b) fun r => some (.flat (.bool (cnd e r (!r))))
def binA (P : Program) (op : BinOp) (t : TypeId) (x y : Operand) (a b : AV) : Option AV :=
  optCase a.unflat (binNil P op t a b) fun v => optCase b.unflat (binNil P op t a b) fun u => binFlat P op t x y v u
def pickA (c a b : AV) : Option AV :=
  match c with
  | .flat (.bool t) => some (cnd t a b)
  | _ => none
def ptrDesc : TypeDesc → Bool
  | .pointer _ => true
  | _ => false
def okFunc (P : Program) (t : TypeId) : Option (FuncId × Bool) → Option FuncId
  | some (f, false) => ob (P.underlying t) fun d => cnd (ptrDesc d) none (some f)
  | _ => none
def noSteps : List FieldStep → Bool
  | [] => true
  | _ => false
/-- a method of a type that is no pointer, with a value receiver, of its own -/
def valMethod (P : Program) (t : TypeId) (name : String) : Option FuncId :=
  ob (P.info? t) fun i => ob (i.methods.toList.find? (·.name == name)) fun m => cnd (noSteps m.path.toList) (okFunc P t m.func) none
def methNil (P : Program) (name : String) (cap : List AV) : List AV → Option AV
  | [.ifc t v] => ob (valMethod P t name) fun _ => some (.fn (.method name) [.ifc t v] cap)
  | _ => none
def nilCheckA (P : Program) : AV → Option AV
  | .ptr b o => some (.ptr b o)
  | .fn (.func g) a b => some (.fn (.func g) a b)
  | .fn (.method name) a b => methNil P name b a
  | .flat (.func (.func g) a b) => some (.flat (.func (.func g) a b))
  | _ => none
def ifaceDesc : TypeDesc → Bool
  | .interface _ => true
  | _ => false
def ifaceA (P : Program) (t : TypeId) (x : AV) : Option AV :=
  ob (P.underlying t) fun d => cnd (ifaceDesc d) none (some (optCase x.unflat (.ifc t x) fun v => .flat (.iface t v)))
def funcA (f : Fn) (first cap : List AV) : AV :=
  optCase (unflats first) (.fn f first cap) fun a => optCase (unflats cap) (.fn f first cap) fun b => .flat (.func f ⟨a⟩ ⟨b⟩)
def lookupSem (es : List MapEntry) (key elem : TypeId) (k : Value) (ok : Bool) : Sem Value := do
  Instr.checkKey es.isEmpty 10000 key k
  let (v, is) ← match ← Instr.findKey key k es with
    | some (_, v) => pure (v, true)
    | none => do pure (← zeroValue elem, false)
  pure (if ok then .tuple #[v, .bool is] else v)
def lookupA (P : Program) (h : AH) (t : TypeId) (ok : Bool) (x k : AV) : Option AV :=
  match x with
  | .mp b => ob (h.map? b) fun m => ob (mapOf P t) fun d => ob k.unflat fun k => mapFlat (pureRun P (lookupSem m.1 d.1 d.2 k ok))
  | _ => none
def unA (P : Program) (op : UnOp) (x : AV) : Option AV := ob x.unflat fun v => mapFlat (pureRun P (Op.unary op v))
def convA (P : Program) (s d : TypeId) (x : AV) : Option AV := ob x.unflat fun v => mapFlat (pureRun P (convert s d v))
def assertA (P : Program) (t u : TypeId) (ok : Bool) (x : AV) : Option AV := ob x.unflat fun v => mapFlat (pureRun P (Instr.typeAssert v t u ok))
def lenA (P : Program) (h : AH) (ts : List TypeId) (xs : List AV) : Option AV :=
  match xs, ts with
  | [v], [t] => lensA P h t v
  | _, _ => none
def minA (P : Program) (ts : Array TypeId) (ot : TypeId) (xs : List AV) : Option AV := ob (unflats xs) fun vs => mapFlat (pureRun P (Builtin.min_ ts ot ⟨vs⟩))
def maxA (P : Program) (ts : Array TypeId) (ot : TypeId) (xs : List AV) : Option AV := ob (unflats xs) fun vs => mapFlat (pureRun P (Builtin.max_ ts ot ⟨vs⟩))
def bltA (P : Program) (ρ : Operand → AV) (h : AH) (ot : TypeId) (args : Array Operand) (ts : Array TypeId) : Builtin → Option AV
  | .len => lenA P h ts.toList (mapA ρ args.toList)
  | .min => minA P ts ot (mapA ρ args.toList)
  | .max => maxA P ts ot (mapA ρ args.toList)
  | _ => none
def pureCallA (P : Program) (ρ : Operand → AV) (h : AH) (ot : TypeId) (args : Array Operand) (ts : Array TypeId) : Callee → Option AV
  | .builtin b => bltA P ρ h ot args ts b
  | _ => none

/-- operations that leave the memory as it is -/
def apureOp (P : Program) (ρ : Operand → AV) (h : AH) (ot : TypeId) : Op → Option AV
  | .move x => some (ρ x)
  | .assign x => some (ρ x)
  | .pick c a b => pickA (ρ c) (ρ a) (ρ b)
  | .build t parts => buildA P t (mapParts ρ parts.toList)
  | .load t a => loadA P h t (ρ a)
  | .nilCheck x => nilCheckA P (ρ x)
  | .makeInterface t x => ifaceA P t (ρ x)
  | .makeFunc f first cap => some (funcA f (mapA ρ first.toList) (mapA ρ cap.toList))
  | .slice t x lo hi mx => sliceOpA P ρ t lo hi mx (ρ x)
  | .fieldAddr s x f => fieldAddrA P s f (ρ x)
  | .field t x f => fieldA P t f (ρ x)
  | .indexAddr t x ix => indexAddrA P t (ρ x) (ρ ix)
  | .index t x ix => indexA P t (ρ x) (ρ ix)
  | .extract t ix => extractA ix (ρ t)
  | .lookup t x ix ok => lookupA P h t ok (ρ x) (ρ ix)
  | .binOp op t x y _ => binA P op t x y (ρ x) (ρ y)
  | .unOp op _ x => unA P op (ρ x)
  | .convert s d x => convA P s d (ρ x)
  | .typeAssert x t u ok => assertA P t u ok (ρ x)
  | .call c => pureCallA P ρ h ot c.args c.argTypes c.callee
  | _ => none
def apure (P : Program) (ρ : Operand → AV) (o : Oper) (h : AH) : Option AV := apureOp P ρ h o.type o.op

def valNx (x : Option (AV × AH)) : Option (ANx × AH) := ob x fun q => some (.value q.1, q.2)
def skipNx (x : Option AH) : Option (ANx × AH) := ob x fun h => some (.skip, h)
def fitA (P : Program) (e : TypeId) (cs : List AV) : Bool := optCase (sizeB P e) false fun n => Nat.beq (lenL cs) n
def allocA (P : Program) (b : Nat) (e : TypeId) : Option (AV × AObj) := ob (zeroB P e) fun z => cnd (fitA P e (valCells z)) (some (.ptr b 0, .cells (valCells z) e)) none
def boxA (P : Program) (b : Nat) (e : TypeId) (v : AV) : Option (AV × AObj) := cnd (fitA P e v.cells) (some (.ptr b 0, .cells v.cells e)) none
def makeMapA (b : Nat) (r : Option Operand) : Option (AV × AObj) := optCase r (some (.mp b, .map [] 0)) fun _ => none
/-- operations that make a block, and do no more: the value, and what the block b holds -/
def makerOp (P : Program) (ρ : Operand → AV) (b : Nat) : Op → Option (AV × AObj)
  | .alloc e => allocA P b e
  | .box e x => boxA P b e (ρ x)
  | .buildSlice t n parts => buildSliceA P b t n (mapParts ρ parts.toList)
  | .makeSlice t l c => makeSliceA P b t (ρ l) (ρ c)
  | .makeMap _ r => makeMapA b r
  | _ => none
def updateA (P : Program) (h : AH) (t : TypeId) (m k v : AV) : Option AH :=
  match m with
  | .mp b => ob (h.map? b) fun x => ob (mapOf P t) fun d => ob k.unflat fun k => ob v.unflat fun v =>
      ob (pureRun P (do Instr.checkKey false 10000 d.1 k; Instr.findKey d.1 k x.1)) fun r =>
        optCase r (some (h.put b (.map (appL x.1 [{ key := k, val := v, born := x.2 }]) (Nat.succ x.2)))) fun _ => none
  | _ => none
def appendOpA (P : Program) (h : AH) (xs : List AV) (ts : List TypeId) : Option (AV × AH) :=
  match xs, ts with
  | [s, x], [t, u] => appendA P h t u s x
  | _, _ => none
def copyOpA (P : Program) (h : AH) (xs : List AV) (ts : List TypeId) : Option (AV × AH) :=
  match xs, ts with
  | [s, x], [t, _] => copyA P h t s x
  | _, _ => none
def tup0 : AV := .flat (.tuple #[])
def clearSl (P : Program) (h : AH) (t : TypeId) (b o n : Nat) : Option (AV × AH) :=
  cnd (Nat.beq n 0) (some (tup0, h)) (ob (sliceElem P t) fun e => ob (zeroB P e) fun z => ob (h.cells? b) fun x => cnd (allOne AV.one (repeatA (valCells z) n))
    (ob (layAt x.1 o (repeatA (valCells z) n)) fun r => some (tup0, h.put b (.cells r x.2))) none)
def clearV (P : Program) (h : AH) (t : TypeId) : AV → Option (AV × AH)
  | .sl b o n _ _ => clearSl P h t b o n
  | .flat (.slice none _ _) => some (tup0, h)
  | _ => none
def clearA (P : Program) (h : AH) (t : TypeId) (s : AV) : Option (AV × AH) := ob (P.underlying t) fun _ => clearV P h t s
def clearOpA (P : Program) (h : AH) (xs : List AV) (ts : List TypeId) : Option (AV × AH) :=
  match xs, ts with
  | [s], [t] => clearA P h t s
  | _, _ => none
def enterA (P : Program) (args : List AV) : AV → Option ANx
  | .flat (.func (.func g) first cap) => cnd (callable P g) (some (.enter g (appL (flats first.toList) (appL args (flats cap.toList))))) none
  | .fn (.func g) first cap => cnd (callable P g) (some (.enter g (appL first (appL args cap)))) none
  | .yl b => some (.round b args)
  | _ => none
def invokeA (P : Program) (name : String) (args : List AV) : AV → Option ANx
  | .ifc t v => ob (valMethod P t name) fun f => cnd (callable P f) (some (.enter f (v :: args))) none
  | _ => none
def actBltA (P : Program) (h : AH) (xs : List AV) (ts : List TypeId) : Builtin → Option (ANx × AH)
  | .append => valNx (appendOpA P h xs ts)
  | .copy => valNx (copyOpA P h xs ts)
  | .clear => valNx (clearOpA P h xs ts)
  | _ => none
def actCallA (P : Program) (ρ : Operand → AV) (h : AH) (xs : List AV) (ts : List TypeId) : Callee → Option (ANx × AH)
  | .builtin b => actBltA P h xs ts b
  | .value f => ob (enterA P xs (ρ f)) fun n => some (n, h)
  | .invoke x name => ob (invokeA P name xs (ρ x)) fun n => some (n, h)

/-- operations that write or call -/
def aactOp (P : Program) (ρ : Operand → AV) (h : AH) : Op → Option (ANx × AH)
  | .store t a x => skipNx (storeA P h t (ρ x) (ρ a))
  | .mapUpdate t m k x => skipNx (updateA P h t (ρ m) (ρ k) (ρ x))
  | .call c => actCallA P ρ h (mapA ρ c.args.toList) c.argTypes.toList c.callee
  | _ => none
def actBlt : Builtin → Bool
  | .append => true
  | .copy => true
  | .clear => true
  | _ => false
def actCallee : Callee → Bool
  | .builtin b => actBlt b
  | _ => true
/-- the kinds of operations: 0 leaves the memory alone and does not look at it, 1 looks at it, 2 makes a block, 3 writes or calls -/
def kindOf : Op → Nat
  | .load _ _ => 1
  | .lookup _ _ _ _ => 1
  | .alloc _ => 2
  | .box _ _ => 2
  | .buildSlice _ _ _ => 2
  | .makeSlice _ _ _ => 2
  | .makeMap _ _ => 2
  | .store _ _ _ => 3
  | .mapUpdate _ _ _ _ => 3
  | .call c => cnd (actCallee c.callee) 3 1
  | _ => 0
end
end Go.Proofs.Ytegkgfiaegpihaa
