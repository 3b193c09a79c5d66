/- The evaluator's second half: regions in whatever order, code, calls. -/
import Derived.Test.YtegkgfiaegpihaaE1
set_option linter.unusedSimpArgs false
set_option linter.unusedVariables false
namespace Go.Proofs.Ytegkgfiaegpihaa
noncomputable section
open Go

abbrev TM := Tr AV
def tat (T : TM) (t : Nat) : AV := optOr (Tr.get T t) .undef
def evO (T : TM) : Operand → AV
  | .tmp t => tat T t
  | .const v => .flat v
  | .global g => .flat (.pointer (some ⟨g, 0, none⟩))
  | .func f => .flat (.func (.func f) #[] #[])
def putA (sz : Nat) (T : TM) (d : Option Nat) (v : AV) : Option TM := optCase d (some T) fun t => cnd (Nat.ble (Nat.succ t) sz) (some (T.set t v)) none

/-- whether an operation is wanted, by what its guard came to -/
def boolIs (want : Bool) : AV → Bool
  | .flat (.bool b) => cnd b want (!want)
  | _ => false
def wantA (ops : List Oper) (T : TM) (o : Oper) : Bool :=
  optCase o.guard true fun g => optCase (nth ops g.1) false fun p => optCase p.dst false fun d => boolIs g.2 (tat T d)

inductive Tgt where
  | fn (f : FuncId) | rnd (l : Nat)
abbrev CallA := Tgt → List AV → AH → Option (AV × AH)

def nextA (call : CallA) : ANx × AH → Option (AV × AH)
  | (.value v, h) => some (v, h)
  | (.skip, h) => some (.undef, h)
  | (.enter f args, h) => call (.fn f) args h
  | (.round l args, h) => call (.rnd l) args h
/-- one operation by its kind: what it comes to, and the memory behind it -/
def stepK (P : Program) (call : CallA) (o : Oper) (T : TM) (h : AH) (k : Nat) : Option (AV × AH) :=
  cnd (Nat.ble k 1) (ob (apureOp P (evO T) h o.type o.op) fun v => some (v, h))
    (cnd (Nat.beq k 2) (ob (makerOp P (evO T) h.next o.op) fun q => some (q.1, h.new q.2)) (ob (aactOp P (evO T) h o.op) (nextA call)))
def stepA (P : Program) (call : CallA) (ops : List Oper) (o : Oper) (T : TM) (h : AH) : Option (AV × AH) :=
  cnd (wantA ops T o) (stepK P call o T h (kindOf o.op)) (some (.undef, h))

def evOps (P : Program) (call : CallA) (sz : Nat) (ops : List Oper) (l : List Oper) : TM → AH → Option (TM × AH) :=
  List.rec (motive := fun _ => TM → AH → Option (TM × AH)) (fun T h => some (T, h))
    (fun o _ ih T h => ob (stepA P call ops o T h) fun q => ob (putA sz T o.dst q.1) fun T' => ih T' q.2) l

/-- what must come ahead of each operation, as bits -/
def edgeBits (bt : Tr Nat) (es : List Edge) : Nat :=
  List.rec (motive := fun _ => Nat) 0 (fun e _ ih => cnd (Region.binds .any e) (Nat.lor (Nat.lor (Nat.shiftLeft 1 e.on) (optOr (bt.get e.on) 0)) ih) ih) es
def bitsOf (l : List Oper) : Nat → Tr Nat → Tr Nat :=
  List.rec (motive := fun _ => Nat → Tr Nat → Tr Nat) (fun _ bt => bt) (fun o _ ih i bt => ih (Nat.succ i) (bt.set i (edgeBits bt o.after.toList))) l
def bit (bt : Tr Nat) (i j : Nat) : Bool := optCase (bt.get i) false fun m => Nat.beq (Nat.land (Nat.shiftRight m j) 1) 1

def enum {α : Type} (l : List α) : Nat → List (Nat × α) := List.rec (motive := fun _ => Nat → List (Nat × α)) (fun _ => []) (fun x _ ih i => (i, x) :: ih (Nat.succ i)) l
def allL {α : Type} (f : α → Bool) (l : List α) : Bool := List.rec (motive := fun _ => Bool) true (fun x _ ih => cnd (f x) ih false) l
def keepL {α : Type} (f : α → Bool) (l : List α) : List α := List.rec (motive := fun _ => List α) [] (fun x _ ih => cnd (f x) (x :: ih) ih) l
def optEq (a b : Option Nat) : Bool := optCase a false fun x => optCase b false fun y => Nat.beq x y
def opTmp (t : Nat) : Operand → Bool
  | .tmp u => Nat.beq u t
  | _ => false
def anyL {α : Type} (f : α → Bool) (l : List α) : Bool := List.rec (motive := fun _ => Bool) false (fun x _ ih => cnd (f x) true ih) l
/-- whether an operation looks at what number j writes -/
def looks (ops : List Oper) (o : Oper) (d : Option Nat) : Bool :=
  optCase d false fun t => cnd (anyL (opTmp t) o.op.operands.toList) true (optCase o.guard false fun g => optCase (nth ops g.1) false fun p => optEq p.dst (some t))
/-- a region's form: edges lead back, targets are apart, what one writes and another one looks at is in order, and all that acts is in order -/
def isAct (o : Oper) : Bool := Nat.beq (kindOf o.op) 3
def formOk (ops : List Oper) (bt : Tr Nat) : Bool :=
  allL (fun p : Nat × Oper => cnd (allL (fun e : Edge => cnd (Region.binds .any e) (Nat.ble (Nat.succ e.on) p.1) true) p.2.after.toList)
    (allL (fun q : Nat × Oper => cnd (Nat.ble (Nat.succ q.1) p.1)
      (cnd (optEq p.2.dst q.2.dst) false
        (cnd (bit bt p.1 q.1) true
          (cnd (looks ops p.2 q.2.dst) false (cnd (looks ops q.2 p.2.dst) false (cnd (isAct p.2) (!(isAct q.2)) true))))) true) (enum ops 0)) false) (enum ops 0)
/-- the makers that come ahead of number i, and ahead of no act before place j -/
def matsOf (l : List (Nat × Oper)) (bt : Tr Nat) (i j : Nat) : List Nat :=
  List.rec (motive := fun _ => List Nat) [] (fun p _ ih =>
    cnd (Nat.beq (kindOf p.2.op) 2) (cnd (bit bt i p.1) (cnd (anyL (fun q : Nat × Oper => cnd (isAct q.2) (cnd (Nat.ble (Nat.succ q.1) j) (bit bt q.1 p.1) false) false) l) ih (p.1 :: ih)) ih) ih) l
/-- the makers that come ahead of no act -/
def restOf (l : List (Nat × Oper)) (bt : Tr Nat) : List Nat :=
  List.rec (motive := fun _ => List Nat) [] (fun p _ ih =>
    cnd (Nat.beq (kindOf p.2.op) 2) (cnd (anyL (fun q : Nat × Oper => cnd (isAct q.2) (bit bt q.1 p.1) false) l) ih (p.1 :: ih)) ih) l
/-- for an operation that reads: the further places at which it may stand, by the number of operations ahead of them -/
def predAct (ops : List Oper) (j : Nat) : Bool :=
  Nat.rec (motive := fun _ => Bool) true (fun m _ => optCase (nth ops m) false isAct) j
def stageOk (l : List (Nat × Oper)) (bt : Tr Nat) (i j : Nat) : Bool :=
  allL (fun q : Nat × Oper => cnd (isAct q.2) (cnd (Nat.ble (Nat.succ q.1) j) (!(bit bt q.1 i)) (!(bit bt i q.1))) true) l
def sameStage (l : List (Nat × Oper)) (i j : Nat) : Bool :=
  allL (fun q : Nat × Oper => cnd (isAct q.2) (cnd (Nat.ble (Nat.succ q.1) j) (Nat.ble (Nat.succ q.1) i) (!(Nat.ble (Nat.succ q.1) i))) true) l
def stagesOf (ops : List Oper) (l : List (Nat × Oper)) (bt : Tr Nat) (i : Nat) : List (Nat × List Nat) :=
  List.rec (motive := fun _ => List (Nat × List Nat)) [] (fun j _ ih =>
    cnd (predAct ops j) (cnd (sameStage l i j) ih (cnd (stageOk l bt i j) ((j, matsOf l bt i j) :: ih) ih)) ih) (List.range (Nat.succ (lenL ops)))
/-- what is to be done at an operation -/
inductive Todo where
  | free
  | read (mats : List Nat) (others : List (Nat × List Nat))
  | make
  | act (mats : List Nat)
def todoOf (ops : List Oper) (l : List (Nat × Oper)) (bt : Tr Nat) (i : Nat) (o : Oper) : Nat → Todo
  | 0 => .free
  | 1 => .read (matsOf l bt i i) (stagesOf ops l bt i)
  | 2 => .make
  | _ => .act (matsOf l bt i i)
structure Plan where
  todo : List (Oper × Todo)
  rest : List Nat
def todosOf (ops : List Oper) (l : List (Nat × Oper)) (bt : Tr Nat) (m : List (Nat × Oper)) : List (Oper × Todo) :=
  List.rec (motive := fun _ => List (Oper × Todo)) [] (fun p _ ih => (p.2, todoOf ops l bt p.1 p.2 (kindOf p.2.op)) :: ih) m
def planB (ops : List Oper) (bt : Tr Nat) (l : List (Nat × Oper)) : Option Plan := cnd (formOk ops bt) (some ⟨todosOf ops l bt l, restOf l bt⟩) none
def plan (ops : List Oper) : Option Plan := planB ops (bitsOf ops 0 .leaf) (enum ops 0)

/-- equal, for sure -/
def intEq : Int → Int → Bool
  | .ofNat a, .ofNat b => Nat.beq a b
  | .negSucc a, .negSucc b => Nat.beq a b
  | _, _ => false
def valEq0 : Value → Value → Bool
  | .bool a, .bool b => cnd a b (!b)
  | .int k a, .int k' b => cnd (kindEq k k') (intEq a b) false
  | .slice none a b, .slice none c d => cnd (Nat.beq a c) (Nat.beq b d) false
  | .pointer none, .pointer none => true
  | .map none, .map none => true
  | .nilFunc, .nilFunc => true
  | .nilIface, .nilIface => true
  | _, _ => false
def allEq {α : Type} (f : α → α → Bool) (l : List α) : List α → Bool :=
  List.rec (motive := fun _ => List α → Bool) (fun m => List.rec (motive := fun _ => Bool) true (fun _ _ _ => false) m)
    (fun x _ ih m => List.rec (motive := fun _ => Bool) false (fun y m' _ => cnd (f x y) (ih m') false) m) l
def valEq : Value → Value → Bool
  | .agg a, .agg b => allEq valEq0 a.toList b.toList
  | .tuple a, .tuple b => allEq valEq0 a.toList b.toList
  | .string a, .string b => a == b
  | a, b => valEq0 a b
def avEq0 : AV → AV → Bool
  | .flat a, .flat b => valEq a b
  | .ptr a b, .ptr c d => cnd (Nat.beq a c) (Nat.beq b d) false
  | .sl b o n c e, .sl b' o' n' c' e' => cnd (Nat.beq b b') (cnd (Nat.beq o o') (cnd (Nat.beq n n') (cnd (Nat.beq c c') (cnd e e' (!e')) false) false) false) false
  | .mp a, .mp b => Nat.beq a b
  | .yl a, .yl b => Nat.beq a b
  | _, _ => false
def avEq : AV → AV → Bool
  | .ag a, .ag b => allEq avEq0 a b
  | .fn (.func f) a b, .fn (.func g) c d => cnd (Nat.beq f g) (cnd (allEq avEq0 a c) (allEq avEq0 b d) false) false
  | a, b => avEq0 a b

/-- blocks that were made, laid into the memory -/
def matA (ob_ : Tr AObj) (base : Nat) (ms : List Nat) (h : AH) : AH :=
  List.rec (motive := fun _ => AH) h (fun m _ ih => optCase (ih.objs.get (Nat.add base m)) (optCase (ob_.get m) ih fun o => ih.put (Nat.add base m) o) fun _ => ih) ms
/-- names that were not given yet -/
def noneAt (t : Tr AObj) (base n : Nat) : Bool := Nat.rec (motive := fun _ => Bool) true (fun m ih => optCase (t.get (Nat.add base m)) ih fun _ => false) n
/-- a step of a region that draws its order: value, memory, blocks made -/
def stepD (P : Program) (call : CallA) (base i : Nat) (o : Oper) (T : TM) (h : AH) (ms : Tr AObj) : Todo → Option (AV × AH × Tr AObj)
  | .free => ob (apureOp P (evO T) h o.type o.op) fun v => some (v, h, ms)
  | .read mats _ => ob (apureOp P (evO T) (matA ms base mats h) o.type o.op) fun v => some (v, h, ms)
  | .make => ob (makerOp P (evO T) (Nat.add base i) o.op) fun q => some (q.1, h, ms.set i q.2)
  | .act mats => ob (aactOp P (evO T) (matA ms base mats h) o.op) fun q => ob (nextA call q) fun r => some (r.1, r.2, ms)
def traceD (P : Program) (call : CallA) (sz : Nat) (ops : List Oper) (base : Nat) (l : List (Oper × Todo)) : Nat → TM → AH → Tr AObj → Option (List (TM × AH × AV) × TM × AH × Tr AObj) :=
  List.rec (motive := fun _ => Nat → TM → AH → Tr AObj → Option (List (TM × AH × AV) × TM × AH × Tr AObj)) (fun _ T h ms => some ([], T, h, ms))
    (fun p _ ih i T h ms => ob (cnd (wantA ops T p.1) (stepD P call base i p.1 T h ms p.2) (some (.undef, h, ms))) fun q =>
      ob (putA sz T p.1.dst q.1) fun T' => ob (ih (Nat.succ i) T' q.2.1 q.2.2) fun r => some ((T, h, q.1) :: r.1, r.2)) l
def memAt (l : List (TM × AH × AV)) (hz : AH) (j : Nat) : AH := optCase (nth l j) hz fun x => x.2.1
def readsOk (P : Program) (l : List (TM × AH × AV)) (hz : AH) (ms : Tr AObj) (base : Nat) (o : Oper) (T : TM) (v : AV) (st : List (Nat × List Nat)) : Bool :=
  allL (fun p : Nat × List Nat => optCase (apureOp P (evO T) (matA ms base p.2 (memAt l hz p.1)) o.type o.op) false fun u => avEq u v) st
def checkTodo (P : Program) (ops : List Oper) (l : List (TM × AH × AV)) (hz : AH) (ms : Tr AObj) (base : Nat) (o : Oper) (x : TM × AH × AV) : Todo → Bool
  | .read _ st => cnd (wantA ops x.1 o) (readsOk P l hz ms base o x.1 x.2.2 st) true
  | _ => true
def checkD (P : Program) (ops : List Oper) (l : List (TM × AH × AV)) (hz : AH) (ms : Tr AObj) (base : Nat) (todo : List (Oper × Todo)) : List (TM × AH × AV) → Bool :=
  List.rec (motive := fun _ => List (TM × AH × AV) → Bool) (fun _ => true)
    (fun p _ ih m => List.rec (motive := fun _ => Bool) false (fun x m' _ => cnd (checkTodo P ops l hz ms base p.1 x p.2) (ih m') false) m) todo
def evDraw (P : Program) (call : CallA) (sz : Nat) (ops : List Oper) (T : TM) (h : AH) : Option (TM × AH) :=
  cnd (noneAt h.objs h.next (lenL ops)) (ob (plan ops) fun pl => ob (traceD P call sz ops h.next pl.todo 0 T ⟨h.objs, Nat.add h.next (lenL ops)⟩ .leaf) fun r =>
    cnd (checkD P ops r.1 r.2.2.1 r.2.2.2 h.next pl.todo r.1) (some (r.2.1, matA r.2.2.2 h.next pl.rest r.2.2.1)) none) none

def loopN (f : TM → AH → Option (AE × TM × AH)) (n : Nat) : TM → AH → Option (AE × TM × AH) :=
  Nat.rec (motive := fun _ => TM → AH → Option (AE × TM × AH)) (fun _ _ => none)
    (fun _ ih T h => ob (f T h) fun q => match q with
      | (.normal, T', h') => ih T' h'
      | q => some q) n
def evReg (P : Program) (call : CallA) (sz : Nat) (ops : List Oper) (d : Bool) (T : TM) (h : AH) : Option (AE × TM × AH) :=
  ob (cnd d (evDraw P call sz ops T h) (evOps P call sz ops ops T h)) fun q => some (.normal, q)
def thenA (g : TM → AH → Option (AE × TM × AH)) : AE × TM × AH → Option (AE × TM × AH)
  | (.normal, T, h) => g T h
  | q => some q
def blockA (id : Nat) : AE × TM × AH → Option (AE × TM × AH)
  | (.exit id', T, h) => cnd (Nat.beq id' id) (some (.normal, T, h)) (some (.exit id', T, h))
  | q => some q
def scopeA : AE × TM × AH → Option (AE × TM × AH)
  | (.goto _, _, _) => none
  | q => some q
def condA (f g : TM → AH → Option (AE × TM × AH)) (T : TM) (h : AH) : AV → Option (AE × TM × AH)
  | .flat (.bool b) => cnd b (f T h) (g T h)
  | _ => none
def readySt : LSt → Bool
  | .ready => true
  | _ => false
def readyLoop : AObj → Bool
  | .loop _ _ _ _ _ st => readySt st
  | _ => false
def isLoop : AObj → Bool
  | .loop .. => true
  | _ => false
/-- behind a range over a function: how the loop was left -/
def endLoopS (T : TM) (h : AH) : LSt → Option (AE × TM × AH)
  | .ready => some (.normal, T, h)
  | .done x => some (x, T, h)
  | .busy => none
def endLoopA (T : TM) (h : AH) : AObj → Option (AE × TM × AH)
  | .loop _ _ _ _ _ st => endLoopS T h st
  | _ => none
/-- a range over a function: the loop's record, the call of the function, how it was left -/
def rangeEnter (call : CallA) (T : TM) (b : Nat) (h : AH) : ANx → Option (AE × TM × AH)
  | .enter f args => ob (call (.fn f) args h) fun q => ob (q.2.objs.get b) (endLoopA T (q.2.put b .dead))
  | _ => none
def rangeA (P : Program) (call : CallA) (sz : Nat) (rb : Option Nat) (g : Operand) (ps : Array Tmp) (as body : Code) (T : TM) (h : AH) : Option (AE × TM × AH) :=
  cnd (optCase rb true fun b0 => optCase (h.objs.get b0) false isLoop)
    (ob (enterA P [.yl h.next] (evO T g)) (rangeEnter call T h.next (h.new (.loop T sz ps.toList as body .ready)))) none
def evC (P : Program) (call : CallA) (sz N : Nat) (rb : Option Nat) (c : Code) : TM → AH → Option (AE × TM × AH) :=
  Code.rec (motive := fun _ => TM → AH → Option (AE × TM × AH))
    (fun T h => some (.normal, T, h))
    (fun _ ops d T h => evReg P call sz ops.toList d T h)
    (fun _ _ iha ihb T h => ob (iha T h) (thenA ihb))
    (fun c _ _ ihx ihy T h => condA ihx ihy T h (evO T c))
    (fun id _ ih T h => ob (ih T h) (blockA id))
    (fun _ ih T h => loopN ih N T h)
    (fun g ps as body _ _ T h => rangeA P call sz rb g ps as body T h)
    (fun id T h => some (.exit id, T, h))
    (fun _ ih T h => ob (ih T h) scopeA)
    (fun _ T h => some (.normal, T, h))
    (fun l T h => some (.goto l, T, h))
    (fun T h => some (.ret, T, h))
    (fun _ _ _ => none) c

def resVar (P : Program) (h : AH) (T : TM) : ResultVar → Option AV
  | .tmp t => some (tat T t)
  | .cell a t => loadA P h t (tat T a)
def resA (P : Program) (h : AH) (T : TM) (l : List ResultVar) : Option (List AV) :=
  List.rec (motive := fun _ => Option (List AV)) (some []) (fun x _ ih => ob (resVar P h T x) fun v => ob ih fun r => some (v :: r)) l
def oneA : List AV → AV
  | [v] => v
  | l => mkTp l
def layArgs (l : List AV) : Nat → TM := List.rec (motive := fun _ => Nat → TM) (fun _ => .leaf) (fun v _ ih k => (ih (Nat.succ k)).set k v) l
def leaveA (P : Program) (fn : Func) : AE × TM × AH → Option (AV × AH)
  | (.normal, T, h) => ob (resA P h T fn.results.toList) fun r => some (oneA r, h)
  | (.ret, T, h) => ob (resA P h T fn.results.toList) fun r => some (oneA r, h)
  | _ => none
def evFn (P : Program) (N : Nat) (call : CallA) (args : List AV) (h : AH) (fn : Func) : Option (AV × AH) :=
  ob fn.body fun c => cnd (Nat.ble (lenL args) fn.ntmps) (ob (evC P call fn.ntmps N none c (layArgs args 0) h) (leaveA P fn)) none
/-- a round of a loop that ranges over a function -/
def setArgs (sz : Nat) (ps : List Nat) : List AV → TM → Option TM :=
  List.rec (motive := fun _ => List AV → TM → Option TM) (fun vs T => List.rec (motive := fun _ => Option TM) (some T) (fun _ _ _ => none) vs)
    (fun p _ ih vs T => List.rec (motive := fun _ => Option TM) none (fun v vs' _ => ob (putA sz T (some p) v) (ih vs')) vs) ps
def setSt (h : AH) (b : Nat) (st : LSt) : AObj → Option AH
  | .loop T sz ps as body _ => some (h.put b (.loop T sz ps as body st))
  | _ => none
def setStA (h : AH) (b : Nat) (st : LSt) : Option AH := ob (h.objs.get b) (setSt h b st)
def endRoundA (b : Nat) : AE × TM × AH → Option (AV × AH)
  | (.normal, _, h) => ob (setStA h b .ready) fun h' => some (.flat (.bool true), h')
  | (x, _, h) => ob (setStA h b (.done x)) fun h' => some (.flat (.bool false), h')
def roundBody (P : Program) (N : Nat) (call : CallA) (b sz : Nat) (body : Code) : AE × TM × AH → Option (AV × AH)
  | (.normal, T, h) => ob (h.objs.get b) fun o => cnd (readyLoop o) (ob (setStA h b .busy) fun h' => ob (evC P call sz N (some b) body T h') (endRoundA b)) none
  | _ => none
def roundA (P : Program) (N : Nat) (call : CallA) (args : List AV) (h : AH) (b : Nat) : AObj → Option (AV × AH)
  | .loop T sz ps as body _ => ob (setArgs sz ps args T) fun T1 => ob (evC P call sz N (some b) as T1 h) (roundBody P N call b sz body)
  | _ => none
def evTgt (P : Program) (N : Nat) (call : CallA) (args : List AV) (h : AH) : Tgt → Option (AV × AH)
  | .fn f => ob (P.funcs[f]?) (evFn P N call args h)
  | .rnd b => ob (h.objs.get b) (roundA P N call args h b)
def evF (P : Program) (N d : Nat) : CallA :=
  Nat.rec (motive := fun _ => CallA) (fun _ _ _ => none) (fun _ ih f args h => evTgt P N ih args h f) d

def isTrue : AV × AH → Bool
  | (.flat (.bool true), _) => true
  | _ => false
/-- package variables whose values are known: their blocks, their cells; all names from next on are free -/
abbrev Globs := List (Nat × List Value)
def globHeap (gs : Globs) (next : Nat) : AH := ⟨List.rec (motive := fun _ => Tr AObj) .leaf (fun p _ ih => ih.set p.1 (.glob p.1 p.2)) gs, next⟩
def globsLow (gs : Globs) (next : Nat) : Bool := allL (fun p => Nat.ble (Nat.succ p.1) next) gs
def saysTrueG (P : Program) (N d f : Nat) (gs : Globs) (next : Nat) : Bool := cnd (globsLow gs next) (optCase (evF P N d (.fn f) [] (globHeap gs next)) false isTrue) false
def saysTrue (P : Program) (N d f : Nat) : Bool := saysTrueG P N d f [] 0
/-- regions that draw their order and are not of the form -/
def badRegions (c : Code) : List Nat :=
  Code.rec (motive := fun _ => List Nat) [] (fun id ops d => cnd d (optCase (plan ops.toList) [id] fun _ => []) []) (fun _ _ a b => appL a b) (fun _ _ _ a b => appL a b) (fun _ _ a => a) (fun _ a => a) (fun _ _ _ _ a b => appL a b) (fun _ => []) (fun _ a => a) (fun _ => []) (fun _ => []) [] (fun _ => []) c
def badIn (P : Program) (f : Nat) : Option (List Nat) := ob (P.funcs[f]?) fun fn => ob fn.body fun c => some (badRegions c)
end
end Go.Proofs.Ytegkgfiaegpihaa
