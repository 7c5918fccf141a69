/-
  The evaluator: its definitions.
-/
import Derived.Calls
import Derived.Orders
set_option linter.unusedVariables false
namespace Go.Proofs.YtdnccdobnhbpeaaDoor.Ev
open Go

/-! ## A trie by the bits of the number. -/
inductive Trie (α : Type) where
  | leaf
  | node (v : Option α) (l r : Trie α)

/-- The way to a number. -/
def pathF : Nat → Nat → List Bool
  | 0, _ => []
  | d + 1, n =>
    match n with
    | 0 => []
    | m + 1 => Nat.beq (m % 2) 0 :: pathF d (m / 2)
def path (n : Nat) : List Bool := pathF 24 n
noncomputable def Trie.at {α : Type} (p : List Bool) : Trie α → Option α :=
  List.rec (motive := fun _ => Trie α → Option α) (fun t => Trie.rec (motive := fun _ => Option α) none (fun v _ _ _ _ => v) t)
    (fun b _ ih t => Trie.rec (motive := fun _ => Option α) none (fun _ l r _ _ => Bool.rec (ih r) (ih l) b) t) p
noncomputable def Trie.put {α : Type} (o : Option α) (p : List Bool) : Trie α → Trie α :=
  List.rec (motive := fun _ => Trie α → Trie α) (fun t => Trie.rec (motive := fun _ => Trie α) (.node o .leaf .leaf) (fun _ l r _ _ => .node o l r) t)
    (fun b _ ih t => Trie.rec (motive := fun _ => Trie α) (Bool.rec (.node none .leaf (ih .leaf)) (.node none (ih .leaf) .leaf) b) (fun v l r _ _ => Bool.rec (.node v l (ih r)) (.node v (ih l) r) b) t) p

/-- A number, looked at. -/
noncomputable def forceN {β : Type} (k : Nat → β) (n : Nat) : β := Nat.rec (motive := fun _ => β) (k 0) (fun p _ => k (Nat.succ p)) n

/-- The small heap: how many numbers have been given out, and what lies there. -/
structure Heap where
  size : Nat
  t : Trie Obj
noncomputable def Heap.get (h : Heap) (i : Nat) : Option Obj := Heap.rec (motive := fun _ => Option Obj) (fun n t => Bool.rec none (t.at (path i)) (Nat.ble (Nat.succ i) n)) h
noncomputable def Heap.set (h : Heap) (i : Nat) (o : Option Obj) : Heap := Heap.rec (motive := fun _ => Heap) (fun n t => ⟨n, t.put o (path i)⟩) h
noncomputable def Heap.push (h : Heap) (o : Obj) : Option Heap :=
  Heap.rec (motive := fun _ => Option Heap) (fun n t => Bool.rec none (forceN (fun m => some ⟨m, t.put (some o) (path n)⟩) (Nat.succ n)) (Nat.ble (Nat.succ n) 1048576)) h

mutual
/-- No address in it. -/
noncomputable def flat : Value → Bool
  | .bool _ | .int _ _ | .float _ _ | .complex _ _ _ | .string _ | .nilFunc | .nilIface => true
  | .pointer a => a.isNone
  | .slice a _ _ => a.isNone
  | .map r => r.isNone
  | .chan r => r.isNone
  | .func fn first captured => (match fn with | .yield _ => false | _ => true) && flatA first && flatA captured
  | .iface _ v => flat v
  | .agg cs => flatA cs
  | .tuple vs => flatA vs
noncomputable def flatA : Array Value → Bool
  | ⟨l⟩ => flatL l
noncomputable def flatL : List Value → Bool
  | [] => true
  | v :: l => flat v && flatL l
end

noncomputable def fine : Obj → Bool
  | .cells _ _ fz => Nat.beq fz.1 0 && Nat.beq fz.2 0
  | .loop _ | .deferred _ | .map .. | .mapIter .. | .stringIter .. => true
  | _ => false
noncomputable def wide : Value → Bool
  | .agg _ | .tuple _ => true
  | _ => false
noncomputable def isRow : Obj → Bool
  | .cells .. => true
  | _ => false

/-- The cell at an address. -/
noncomputable def Heap.cell (h : Heap) (a : Addr) : Option Value :=
  if a.spot.isSome then none else
  match h.get a.block with
  | some (.cells c _ _) => c.toList[a.off]?
  | some (.pending c _) => c.toList[a.off]?
  | _ => none

/-- What may be written: numbers from 'lo' on, and one more. -/
structure Bar where
  lo : Nat
  also : Option Nat
noncomputable def Bar.ok (b : Bar) (r : Nat) : Bool := Nat.ble b.lo r || (match b.also with | some x => Nat.beq x r | none => false)

/-- A list with one place set, if it is there. -/
noncomputable def setAt (v : Value) : Nat → List Value → Option (List Value)
  | _, [] => none
  | 0, _ :: l => some (v :: l)
  | n + 1, x :: l =>
    match setAt v n l with
    | some l => some (x :: l)
    | none => none

/-- A store. -/
noncomputable def Heap.put (b : Bar) (h : Heap) (a : Addr) (v : Value) : Option Heap :=
  if wide v || !b.ok a.block || a.spot.isSome then none else
  match h.get a.block with
  | some (.cells c e fz) =>
    bif Nat.beq fz.1 0 && Nat.beq fz.2 0 then
      match setAt v a.off c.toList with
      | some l => some (h.set a.block (some (.cells ⟨l⟩ e fz)))
      | none => none
    else none
  | some (.pending c e) =>
    match setAt v a.off c.toList with
    | some l => some (h.set a.block (some (.pending ⟨l⟩ e)))
    | none => none
  | _ => none

/-- What is no row of cells. -/
noncomputable def Heap.obj (h : Heap) (r : Nat) : Option Obj :=
  match h.get r with
  | some (.cells ..) => none
  | some (.pending ..) => none
  | o => o

noncomputable def Heap.putObj (b : Bar) (h : Heap) (r : Nat) (o : Obj) : Option Heap :=
  if !b.ok r || !fine o || isRow o then none else
  match h.obj r with
  | some _ => some (h.set r (some o))
  | none => none

/-- An operation's own steps, over the small heap. -/
noncomputable def lsem (P : Program) (b : Bar) {α : Type} : Sem α → Heap → Option (α × Heap)
  | .pure a, h => some (a, h)
  | .load _ a k, h =>
    match h.cell a with
    | some v => lsem P b (k v) h
    | none => none
  | .store _ a v k, h =>
    match h.put b a v with
    | some h' => lsem P b k h'
    | none => none
  | .new o k, h =>
    if fine o then
      match h.push o with
      | some h' => lsem P b (k h.size) h'
      | none => none
    else none
  | .getObj r k, h =>
    match h.obj r with
    | some o => lsem P b (k o) h
    | none => none
  | .setObj r o k, h =>
    match h.putObj b r o with
    | some h' => lsem P b k h'
    | none => none
  | .choose q k, h => if q.forced then lsem P b (k 0) h else none
  | .program k, h => lsem P b (k P) h
  | .mark _ k, h => lsem P b k h
  | .shape .., _ | .freeze .., _ | .frozen .., _ | .sys .., _ | .halt _, _ => none

/-- The bytes of some cells. -/
noncomputable def bytesL : List Value → Option (List UInt8)
  | [] => some []
  | v :: l =>
    match v with
    | .int .u8 (.ofNat b) =>
      match bytesL l with
      | some r => some (b.toUInt8 :: r)
      | none => none
    | _ => none

noncomputable def isInt : TypeDesc → Bool
  | .int _ => true
  | _ => false

/-- Room behind a slice: a block of a fixed size stays; a block that an append has made is given up. -/
noncomputable def lroom (b : Bar) (elem : TypeId) (base : Option Addr) (cells : Nat) (h : Heap) : Option Heap :=
  match base with
  | none => some h
  | some a =>
    match h.get a.block with
    | some (.cells ..) => some h
    | some (.pending c e) => if b.ok a.block && Nat.beq a.off 0 && a.spot.isNone && Nat.beq c.toList.length cells && Nat.beq e elem then some (h.set a.block none) else none
    | _ => none

noncomputable def lgrow (P : Program) (b : Bar) (elem : TypeId) (info : TypeInfo) (base : Option Addr) (sLen sCap n : Nat) (new : Array Value) (h : Heap) : Option (Value × Heap) :=
  bif Nat.ble (sLen + n) sCap then
    match base with
    | none => some (.slice none (sLen + n) sCap, h)
    | some a =>
      match lsem P b (storeCells (a.add (sLen * info.size)) new.toList) h with
      | some (_, h) => some (.slice (some a) (sLen + n) sCap, h)
      | none => none
  else
    match info.zero with
    | none => none
    | some z =>
      match lsem P b (Builtin.firstCells info.size sLen (.slice base sLen sCap)) h with
      | none => none
      | some (old, h) =>
        if Nat.beq z.cells.toList.length info.size && Nat.beq new.toList.length (n * info.size) && Nat.beq old.toList.length (sLen * info.size) && new.toList.all (fun v => !wide v) then
          match lroom b elem base (sCap * info.size) h with
          | none => none
          | some h =>
            match h.push (.pending ⟨old.toList ++ new.toList⟩ elem) with
            | some h' => some (.slice (some ⟨h.size, 0, none⟩) (sLen + n) (sLen + n), h')
            | none => none
        else none

/-- append: whether there is room is known for a block of a fixed size; a block that an append has made has room that nobody knows, and it is given up. -/
noncomputable def lappend (P : Program) (b : Bar) (argTypes : Array TypeId) (args : List Value) (h : Heap) : Option (Value × Heap) :=
  match argTypes.toList, args with
  | [sType, xType], [Value.slice base sLen sCap, x] =>
    match P.underlying sType, P.underlying xType with
    | some (.slice elem), some xd =>
      match P.info? elem with
      | none => none
      | some info =>
        if Nat.beq info.size 0 || !Nat.ble info.size 1048576 || !Nat.ble info.bytes 1048576 || !Nat.ble sCap 1048576 || !Nat.ble sLen 1048576 then none else
        if isInt xd then
          match x, info.zero with
          | .int _ (.ofNat n), some z =>
            if Nat.ble n 1048576 && flat z && Nat.beq z.cells.toList.length info.size then lgrow P b elem info base sLen sCap n (Builtin.zeroCells z.cells n) h else none
          | _, _ => none
        else
          match lsem P b (Builtin.lenOf x) h with
          | none => none
          | some (n, h) =>
            if !Nat.ble n 1048576 then none else
            match lsem P b (Builtin.firstCells info.size n x) h with
            | none => none
            | some (new, h) => lgrow P b elem info base sLen sCap n new h
    | _, _ => none
  | _, _ => none

/-- cap: known for a block of a fixed size. -/
noncomputable def lcap (P : Program) (argTypes : Array TypeId) (args : List Value) (h : Heap) : Option (Value × Heap) :=
  match argTypes.toList, args with
  | [t], [Value.slice base _ c] =>
    match P.underlying t with
    | some (.slice _) =>
      match base with
      | none => some (.int .i64 (.ofNat c), h)
      | some a => (match h.get a.block with | some (.cells ..) => some (.int .i64 (.ofNat c), h) | _ => none)
    | _ => none
  | _, _ => none

/-- unsafe.String over a block of bytes: the block is given up. -/
noncomputable def lview (P : Program) (b : Bar) (u : TypeId) (a : Addr) (n : Nat) (cs : List Value) (e : TypeId) (h : Heap) : Option (Value × Heap) :=
  bif b.ok a.block && a.spot.isNone && Nat.beq (P.cellsOf e) 1 && Nat.ble (a.off + n) cs.length && Go.sameLayout P P.depth e u then
    match bytesL ((cs.drop a.off).take n) with
    | some l => some (.string ⟨⟨l⟩⟩, h.set a.block none)
    | none => none
  else none
noncomputable def lstring (P : Program) (b : Bar) (ts : Array TypeId) (args : List Value) (h : Heap) : Option (Value × Heap) :=
  match ts.toList, args with
  | pt :: _, [.pointer p, .int _ (.ofNat n)] =>
    match P.underlying pt with
    | some (.pointer u) =>
      match n with
      | 0 => some (.string .empty, h)
      | n + 1 =>
        match p with
        | none => none
        | some a =>
          bif Nat.ble (n + 1) 1048576 then
            match h.get a.block with
            | some (.pending cs e) => lview P b u a (n + 1) cs.toList e h
            | some (.cells cs e (0, 0)) => lview P b u a (n + 1) cs.toList e h
            | _ => none
          else none
    | _ => none
  | _, _ => none
noncomputable def ldata (args : List Value) (h : Heap) : Option (Value × Heap) :=
  match args with
  | [.slice none _ _] => some (.pointer none, h)
  | [.slice (some a) _ (_ + 1)] => some (.pointer (some a), h)
  | _ => none

noncomputable def allowed : Op → Bool
  | .makeFunc (.yield _) _ _ => false
  | .move _ | .assign _ | .pick .. | .alloc _ | .box .. | .build .. | .buildSlice .. | .load .. | .store ..
  | .makeInterface .. | .makeFunc .. | .makeMap .. | .makeSlice .. | .fieldAddr .. | .field .. | .indexAddr .. | .index .. | .typeAssert .. | .extract .. => true
  | _ => false

noncomputable def bodied (P : Program) (f : FuncId) : Bool :=
  match P.funcs[f]? with
  | some fn => fn.body.isSome && fn.name != "runtime.NumGoroutine"
  | none => false

noncomputable def lmethod (P : Program) (b : Bar) (recv : Value) (name : String) (args : List Value) (h : Heap) : Option (Next × Heap) :=
  match recv with
  | .iface t v =>
    match lsem P b (method (P.types.size + Made.depth) t v name) h with
    | some ((f, r), h) => if bodied P f then some (.enter f ⟨r :: args⟩, h) else none
    | none => none
  | _ => none

noncomputable def linvoke (P : Program) (b : Bar) (t : Target) (args : List Value) (h : Heap) : Option (Next × Heap) :=
  match t with
  | .fn (.func f) captured => if bodied P f then some (.enter f ⟨args ++ captured.toList⟩, h) else none
  | .fn (.yield l) _ => lsem P b (Instr.yield l ⟨args⟩) h
  | .fn (.method name) _ =>
    match args with
    | recv :: args => lmethod P b recv name args h
    | [] => none
  | .fn (.methodOf t name) _ =>
    match args, P.underlying t with
    | r :: args, some (.interface _) => lmethod P b r name args h
    | r :: args, some _ => lmethod P b (.iface t r) name args h
    | _, _ => none
  | .fn (.via t path f pointer) _ =>
    match args with
    | x :: args =>
      match lsem P b (receiverVia t x path pointer) h with
      | some (r, h) => if bodied P f then some (.enter f ⟨r :: args⟩, h) else none
      | none => none
    | [] => none
  | .builtin .len ts t _ =>
    match lsem P b (Builtin.len_ ts t ⟨args⟩) h with
    | some (v, h) => some (.value v, h)
    | none => none
  | .builtin .cap ts t _ =>
    match lcap P ts args h with
    | some (v, h) => some (.value v, h)
    | none => none
  | .builtin .copy ts t _ =>
    match lsem P b (Builtin.copy_ ts t ⟨args⟩) h with
    | some (v, h) => some (.value v, h)
    | none => none
  | .builtin .unsafeString ts _ _ =>
    match lstring P b ts args h with
    | some (v, h) => some (.value v, h)
    | none => none
  | .builtin .unsafeSliceData _ _ _ =>
    match ldata args h with
    | some (v, h) => some (.value v, h)
    | none => none
  | _ => none

noncomputable def lcall (P : Program) (b : Bar) (ev : Operand → Value) (c : Call) (type : TypeId) (h : Heap) : Option (Next × Heap) :=
  match c.callee with
  | .builtin .append =>
    match lappend P b c.argTypes (c.args.toList.map ev) h with
    | some (v, h) => some (.value v, h)
    | none => none
  | .builtin bi => linvoke P b (.builtin bi c.argTypes type #[]) (c.args.toList.map ev) h
  | .invoke recv name => linvoke P b (.fn (.method name) #[]) (ev recv :: c.args.toList.map ev) h
  | .value f =>
    match ev f with
    | .func fn first captured => linvoke P b (.fn fn captured) (first.toList ++ c.args.toList.map ev) h
    | _ => none

/-- A slice of a block with unknown room is cut only in front of its end. -/
noncomputable def lowIs : Option Value → Int
  | some (.int _ n) => n
  | _ => 0
noncomputable def sliceFit (h : Heap) (x : Value) (low max : Option Value) : Bool :=
  match x with
  | .slice (some a) _ c =>
    match h.get a.block with
    | some (.cells ..) => true
    | some (.pending ..) => max.isNone && decide (lowIs low < c)
    | _ => false
  | .pointer (some a) =>
    match h.get a.block with
    | some (.cells ..) => true
    | _ => false
  | _ => true

/-- No value, nowhere. -/
noncomputable def nilLike : Value → Bool
  | .pointer none | .slice none _ _ | .map none | .nilFunc | .nilIface => true
  | _ => false
noncomputable def eqOp (op : BinOp) : Bool := match op with | .eql | .neq => true | _ => false
noncomputable def notMethod : Value → Bool
  | .func (.method _) _ _ => false
  | _ => true

noncomputable def okOperand (G : Nat) : Operand → Bool
  | .const v => flat v
  | .global g => Nat.ble (g + 1) G
  | _ => true

/-- An operation's operands. -/
noncomputable def operandsL : Op → List Operand
  | .alloc _ | .ready _ | .waits _ => []
  | .move x | .assign x | .box _ x | .load _ x | .nilCheck x | .unOp _ _ x | .convert _ _ x | .sliceToArrayPointer _ x | .makeInterface _ x
  | .makeChan _ x | .fieldAddr _ x _ | .field _ x _ | .range _ x | .next x _ | .entry x | .typeAssert x _ _ _ | .extract x _ | .panic x | .recv _ x _ => [x]
  | .pick c a b => [c, a, b]
  | .build _ ps | .buildSlice _ _ ps => ps.toList.map (·.2)
  | .store _ a v | .binOp _ _ a v _ | .makeSlice _ a v | .indexAddr _ a v | .index _ a v | .lookup _ a v _ | .mapEntry _ a v | .send a v => [a, v]
  | .makeFunc _ first captured => first.toList ++ captured.toList
  | .makeMap _ r => r.toList
  | .slice _ x l h m => x :: (l.toList ++ h.toList ++ m.toList)
  | .mapUpdate _ m k v | .entryStore _ m k v | .insert _ m k v => [m, k, v]
  | .call c | .go c | .defer c => (match c.callee with | .value f => f :: c.args.toList | .invoke r _ => r :: c.args.toList | .builtin _ => c.args.toList)
  | .select cs _ => cs.toList.flatMap fun c => c.chan :: c.send.toList

noncomputable def zeroOk (P : Program) (t : TypeId) : Bool :=
  match P.info? t with
  | some i => (match i.zero with | some z => flat z | none => true)
  | none => true

noncomputable def opZeros (P : Program) : Op → Bool
  | .alloc e => zeroOk P e
  | .build t _ => zeroOk P t
  | .buildSlice t _ _ => (match P.underlying t with | some (.slice e) => zeroOk P e | _ => true)
  | .makeSlice t _ _ => (match P.underlying t with | some (.slice e) => zeroOk P e | _ => true)
  | .lookup t _ _ _ => (match P.underlying t with | some (.map _ e) => zeroOk P e | _ => true)
  | .mapEntry t _ _ => (match P.underlying t with | some (.map _ e) => zeroOk P e | _ => true)
  | .typeAssert _ _ t _ => zeroOk P t
  | _ => true

/-- What needs no memory at all. -/
noncomputable def quietS (P : Program) {α : Type} : Sem α → Option α
  | .pure a => some a
  | .program k => quietS P (k P)
  | .mark _ k => quietS P k
  | _ => none

/-! ## Maps whose keys have no address, and strings that are gone through -/
noncomputable def quietQ (P : Program) {α : Type} (s : Sem α) : Sem α :=
  match quietS P s with
  | some a => .pure a
  | none => Go.stuck "quiet"
noncomputable def flatKeys : List MapEntry → Bool
  | [] => true
  | e :: es => flat e.key && flatKeys es
noncomputable def findS (P : Program) (kt : TypeId) (k : Value) (es : Array MapEntry) : Sem (Option Nat) :=
  bif flat k && flatKeys es.toList then
    match quietS P (Instr.findKey kt k es.toList) with
    | some (some x) => .pure (some x.1)
    | some none => .pure none
    | none => Go.stuck "find"
  else Go.stuck "keys"
noncomputable def lookupIn (P : Program) (key elem : TypeId) (index : Value) (commaOk : Bool) (es : Array MapEntry) : Sem Value :=
  bif flat index then do
    quietQ P (Instr.checkKey es.isEmpty 10000 key index)
    match ← findS P key index es with
    | some i =>
      match es.toList[i]? with
      | some e => Pure.pure (if commaOk then .tuple #[e.val, .bool true] else e.val)
      | none => stuck "map"
    | none => do
      let v ← zeroValue elem
      Pure.pure (if commaOk then .tuple #[v, .bool false] else v)
  else stuck "key"
noncomputable def lookupS (P : Program) (xType : TypeId) (x index : Value) (commaOk : Bool) : Sem Value := do
  let .map key elem ← underlying xType | stuck "map"
  match x with
  | .map none => lookupIn P key elem index commaOk #[]
  | .map (some r) => do
    let .map es _ ← getObj r | stuck "map"
    lookupIn P key elem index commaOk es
  | _ => stuck "map"
noncomputable def setE (f : MapEntry → MapEntry) : Nat → List MapEntry → List MapEntry
  | _, [] => []
  | 0, e :: l => f e :: l
  | n + 1, e :: l => e :: setE f n l
noncomputable def updateIn (P : Program) (kt : TypeId) (key value : Value) (r : Nat) (es : Array MapEntry) (clock : Nat) : Sem Unit :=
  bif flat key then do
    quietQ P (Instr.checkKey false 10000 kt key)
    match ← findS P kt key es with
    | some i =>
      match es.toList[i]? with
      | some e => bif Instr.sameBits 10000 e.key key then setObj r (.map ⟨setE (fun e => { e with key, val := value }) i es.toList⟩ clock) else stuck "map"
      | none => stuck "map"
    | none => setObj r (.map ⟨es.toList ++ [{ key, val := value, born := clock }]⟩ (clock + 1))
  else stuck "key"
noncomputable def mapUpdateS (P : Program) (mapType : TypeId) (map key value : Value) : Sem Unit := do
  let .map kt _ ← underlying mapType | stuck "map"
  match map with
  | .map (some r) => do
    let .map es clock ← getObj r | stuck "map"
    updateIn P kt key value r es clock
  | _ => stuck "map"
noncomputable def entryIn (P : Program) (kt elem : TypeId) (key : Value) (r : Nat) (es : Array MapEntry) (clock : Nat) : Sem Value :=
  bif flat key then do
    quietQ P (Instr.checkKey false 10000 kt key)
    match ← findS P kt key es with
    | some i =>
      match es.toList[i]? with
      | some e =>
        bif Instr.sameBits 10000 e.key key then do
          setObj r (.map ⟨setE (fun e => { e with key }) i es.toList⟩ clock)
          Pure.pure (.tuple #[e.val, goInt e.born])
        else stuck "map"
      | none => stuck "map"
    | none => do
      let zero ← zeroValue elem
      setObj r (.map ⟨es.toList ++ [{ key, val := zero, born := clock }]⟩ (clock + 1))
      Pure.pure (.tuple #[zero, goInt clock])
  else stuck "key"
noncomputable def mapEntryS (P : Program) (mapType : TypeId) (map key : Value) : Sem Value := do
  let .map kt elem ← underlying mapType | stuck "map"
  match map with
  | .map (some r) => do
    let .map es clock ← getObj r | stuck "map"
    entryIn P kt elem key r es clock
  | _ => stuck "map"
noncomputable def entryStoreS (map stamp value : Value) : Sem Unit := do
  let .map (some r) := map | stuck "map"
  let .map es clock ← getObj r | stuck "map"
  let born ← asInt stamp
  match es.toList.findIdx? (fun e => (e.born : Int) == born) with
  | some i => setObj r (.map ⟨setE (fun e => { e with val := value }) i es.toList⟩ clock)
  | none => stuck "map"
noncomputable def rangeS (xType : TypeId) (x : Value) : Sem Value := do
  let .string ← underlying xType | stuck "range"
  let .string s := x | stuck "range"
  Pure.pure (.pointer (some ⟨← newObj (.stringIter s 0), 0, none⟩))
/-- Bytes to a string. -/
noncomputable def convertS (P : Program) (src dst : TypeId) (x : Value) : Sem Value :=
  match P.underlying src, P.underlying dst with
  | some (.slice e), some .string =>
    match P.underlying e, x with
    | some (.int .u8), .slice none _ _ => Pure.pure (.string .empty)
    | some (.int .u8), .slice (some a) len _ => do
      let cs ← loadCells a len
      match bytesL cs.toList with
      | some l => Pure.pure (.string ⟨⟨l⟩⟩)
      | none => stuck "bytes"
    | _, _ => stuck "convert"
  | _, _ => stuck "convert"
noncomputable def nextS (iter : Value) (isString : Bool) : Sem Value := do
  let .pointer (some ⟨r, 0, _⟩) := iter | stuck "next"
  match ← getObj r, isString with
  | .stringIter s pos, true =>
    if pos < s.size then
      let (c, width) := Utf8.decode s pos
      setObj r (.stringIter s (pos + width))
      Pure.pure (.tuple #[.bool true, goInt pos, .int .i32 c])
    else Pure.pure (.tuple #[.bool false])
  | _, _ => stuck "next"

/-- Operations that make no address and ask for no memory, at values with no address. -/
noncomputable def plainOp (P : Program) : Op → Bool
  | .binOp .. | .unOp .. | .convert .. | .pick .. | .index .. => true
  | .call { callee := .builtin .len, .. } | .call { callee := .builtin .max, .. } | .call { callee := .builtin .min, .. } => true
  | .call { callee := .value (.func f), .. } => !bodied P f
  | _ => false

noncomputable def lplain (P : Program) (ev : Operand → Value) (o : Oper) : Option Value :=
  if plainOp P o.op && (operandsL o.op).all (fun x => flat (ev x)) then
    match quietS P (execOp ev o) with
    | some (.value v) => if flat v then some v else none
    | _ => none
  else none

noncomputable def lexec (P : Program) (G : Nat) (b : Bar) (ev : Operand → Value) (o : Oper) (h : Heap) : Option (Next × Heap) :=
  if (operandsL o.op).all (okOperand G) && opZeros P o.op then
    match lplain P ev o with
    | some v => some (.value v, h)
    | none =>
      match o.op with
      | .call c => lcall P b ev c o.type h
      | .slice _ x low _ max => if sliceFit h (ev x) (low.map ev) (max.map ev) then lsem P b (execOp ev o) h else none
      | .binOp op _ x y _ => if eqOp op && (nilLike (ev x) || nilLike (ev y)) then (match quietS P (execOp ev o) with | some (.value (.bool v)) => some (.value (.bool v), h) | _ => none) else none
      | .nilCheck x => if notMethod (ev x) then lsem P b (execOp ev o) h else none
      | .lookup t m k c => lsem P b (do Pure.pure (.value (← lookupS P t (ev m) (ev k) c))) h
      | .mapUpdate t m k x => lsem P b (do mapUpdateS P t (ev m) (ev k) (ev x); Pure.pure .skip) h
      | .insert t m k x => lsem P b (do mapUpdateS P t (ev m) (ev k) (ev x); Pure.pure .skip) h
      | .mapEntry t m k => lsem P b (do Pure.pure (.value (← mapEntryS P t (ev m) (ev k)))) h
      | .entryStore _ m s x => lsem P b (do entryStoreS (ev m) (ev s) (ev x); Pure.pure .skip) h
      | .range t x => lsem P b (do Pure.pure (.value (← rangeS t (ev x)))) h
      | .next it s => lsem P b (do Pure.pure (.value (← nextS (ev it) s))) h
      | .convert s d x => lsem P b (do Pure.pure (.value (← convertS P s d (ev x)))) h
      | op => if allowed op then lsem P b (execOp ev o) h else none
  else none

/-! ## Frames -/
structure LF where
  fn : FuncId
  n : Nat
  t : Trie Value
  todo : List Item
  defers : List Deferred
  ret : Bool
  round : Option Nat

noncomputable def vat (p : List Bool) (t : Trie Value) : Value := Option.rec (motive := fun _ => Value) undef (fun v => v) (t.at p)
noncomputable def tget (t : Trie Value) (i : Nat) : Value := vat (path i) t
noncomputable def tset (n : Nat) (t : Trie Value) (i : Nat) (v : Value) : Trie Value := Bool.rec t (t.put (some v) (path i)) (Nat.ble (Nat.succ i) n)
noncomputable def tsetO (n : Nat) (t : Trie Value) (d : Option Tmp) (v : Value) : Trie Value := Option.rec (motive := fun _ => Trie Value) t (fun i => tset n t i v) d
noncomputable def ofList (n : Nat) (l : List Value) : Nat → Trie Value → Trie Value :=
  List.rec (motive := fun _ => Nat → Trie Value → Trie Value) (fun _ t => t) (fun v _ ih i t => ih (Nat.succ i) (tset n t i v)) l
noncomputable def toL (t : Trie Value) (n : Nat) : List Value → List Value :=
  Nat.rec (motive := fun _ => List Value → List Value) (fun acc => acc) (fun n ih acc => ih (tget t n :: acc)) n
/-- An operand's value. A frame of n places has nothing behind them. -/
noncomputable def evT (n : Nat) (t : Trie Value) : Operand → Value
  | .tmp i => bif Nat.ble (Nat.succ i) n then tget t i else undef
  | .const v => v
  | .global g => .pointer (some ⟨g, 0, none⟩)
  | .func f => .func (.func f) #[] #[]
/-- Where a value comes from. -/
inductive Src where
  | slot (i : Nat) (p : List Bool)
  | val (v : Value)
noncomputable def srcOf (G n : Nat) : Operand → Option Src
  | .tmp i => bif Nat.ble (Nat.succ i) n then some (.slot i (path i)) else some (.val undef)
  | .const v => bif flat v then some (.val v) else none
  | .global g => bif Nat.ble (Nat.succ g) G then some (.val (.pointer (some ⟨g, 0, none⟩))) else none
  | .func f => some (.val (.func (.func f) #[] #[]))
noncomputable def srcsOf (G n : Nat) : List Operand → Option (List Src)
  | [] => some []
  | x :: xs =>
    match srcOf G n x with
    | none => none
    | some s =>
      match srcsOf G n xs with
      | none => none
      | some l => some (s :: l)
noncomputable def evS (t : Trie Value) (s : Src) : Value := Src.rec (motive := fun _ => Value) (fun _ p => vat p t) (fun v => v) s
noncomputable def evSs (t : Trie Value) (l : List Src) : List Value := List.rec (motive := fun _ => List Value) [] (fun s _ ih => evS t s :: ih) l

/-- What a guard asks for has been yielded. -/
noncomputable def wantedT (ops : Array Oper) (g : Option (Nat × Bool)) (t : Trie Value) (n : Nat) : Bool :=
  match g with
  | none => true
  | some (j, want) =>
    match (ops[j]?).bind (·.dst) with
    | some d => bif Nat.ble (Nat.succ d) n then (match tget t d with | .bool b => b == want | _ => false) else false
    | none => false

/-! ## The operations that occur most often, by themselves -/
noncomputable def isAggB (P : Program) (t : TypeId) : Option Bool :=
  match P.underlying t with
  | some (.struct _) => some true
  | some (.array _ _) => some true
  | some _ => some false
  | none => none
noncomputable def sizeB (P : Program) (t : TypeId) : Option Nat :=
  match P.info? t with
  | some i => some i.size
  | none => none
noncomputable def cellsFrom (h : Heap) (a : Addr) : Nat → Nat → Option (List Value)
  | 0, _ => some []
  | n + 1, i =>
    match h.cell (a.add i) with
    | none => none
    | some v =>
      match cellsFrom h a n (i + 1) with
      | none => none
      | some l => some (v :: l)
noncomputable def ofInt (k : IntKind) (n : Int) : Option Value :=
  match n with
  | .ofNat m =>
    match k with
    | .i64 => bif Nat.ble m 9223372036854775807 then forceN (fun m => some (.int .i64 (.ofNat m))) m else none
    | .u64 => bif Nat.ble m 18446744073709551615 then forceN (fun m => some (.int .u64 (.ofNat m))) m else none
    | .u8 => bif Nat.ble m 255 then forceN (fun m => some (.int .u8 (.ofNat m))) m else none
    | _ => none
  | .negSucc m =>
    match k with
    | .i64 => bif Nat.ble m 9223372036854775807 then forceN (fun m => some (.int .i64 (.negSucc m))) m else none
    | _ => none
noncomputable def isZero (n : Int) : Bool :=
  match n with
  | .ofNat m => Nat.beq m 0
  | .negSucc _ => false
/-- Bits of two numbers that are not below 0 and fit into 63 bits, or into 8. -/
noncomputable def xbits (f : Nat → Nat → Nat) (k : IntKind) (x y : Int) : Option Value :=
  match x, y with
  | .ofNat a, .ofNat b =>
    match k with
    | .u8 => bif Nat.ble a 255 && Nat.ble b 255 then ofInt k (.ofNat (f a b)) else none
    | .i64 => bif Nat.ble a 9223372036854775807 && Nat.ble b 9223372036854775807 then ofInt k (.ofNat (f a b)) else none
    | .u64 => bif Nat.ble a 18446744073709551615 && Nat.ble b 18446744073709551615 then ofInt k (.ofNat (f a b)) else none
    | _ => none
  | _, _ => none
noncomputable def xint (op : BinOp) (k : IntKind) (x y : Int) : Option Value :=
  match op with
  | .add => ofInt k (x + y)
  | .sub => ofInt k (x - y)
  | .mul => ofInt k (x * y)
  | .quo => bif isZero y then none else ofInt k (x.tdiv y)
  | .rem => bif isZero y then none else ofInt k (x.tmod y)
  | .and => xbits Nat.land k x y
  | .or => xbits Nat.lor k x y
  | .xor => xbits Nat.xor k x y
  | .eql => some (.bool (x == y))
  | .neq => some (.bool (x != y))
  | .lss => some (.bool (decide (x < y)))
  | .leq => some (.bool (decide (x ≤ y)))
  | .gtr => some (.bool (decide (y < x)))
  | .geq => some (.bool (decide (y ≤ x)))
  | _ => none
def sameKind : IntKind → IntKind → Bool
  | .i8, .i8 | .i16, .i16 | .i32, .i32 | .i64, .i64 | .u8, .u8 | .u16, .u16 | .u32, .u32 | .u64, .u64 => true
  | _, _ => false
/-- An operation that occurs often, with all that its types say. -/
inductive Hot where
  | move (x : Src)
  | extract (x : Src) (i : Nat)
  | load (a : Src)
  | loadN (n : Nat) (a : Src)
  | store (a x : Src)
  | storeN (n : Nat) (a x : Src)
  | arith (op : BinOp) (x y : Src)
  | fieldA (off : Nat) (x : Src)
  | indexS (size : Nat) (x i : Src)
  | indexA (len size : Nat) (x i : Src)
  | pick (c a b : Src)
  | unNot (x : Src)
  | conv (k : IntKind) (x : Src)
  | box (elem : TypeId) (x : Src)
  | alloc (elem : TypeId) (cs : List Value)
  | mkFunc (f : FuncId) (first captured : List Src)
  | lenS (x : Src)
  | lenT (x : Src)

noncomputable def one (G n : Nat) (x : Operand) (k : Src → Option Hot) : Option Hot :=
  match srcOf G n x with
  | some s => k s
  | none => none
noncomputable def decodeLoad (P : Program) (t : TypeId) (s : Src) : Option Hot :=
  match isAggB P t with
  | some false => some (.load s)
  | some true => (match sizeB P t with | some n => some (.loadN n s) | none => none)
  | none => none
noncomputable def decodeStore (P : Program) (t : TypeId) (a x : Src) : Option Hot :=
  match isAggB P t, sizeB P t with
  | some false, some 1 => some (.store a x)
  | some true, some n => some (.storeN n a x)
  | _, _ => none
noncomputable def decodeField (P : Program) (s : TypeId) (x : Src) (f : Nat) : Option Hot :=
  match P.underlying s with
  | some (.struct fields) =>
    match fields.toList[f]? with
    | some fd => (match sizeB P fd.type with | some (_ + 1) => some (.fieldA fd.offset x) | _ => none)
    | none => none
  | _ => none
noncomputable def decodeIndex (P : Program) (t : TypeId) (x i : Src) : Option Hot :=
  match P.underlying t with
  | some (.slice e) => (match sizeB P e with | some n => some (.indexS n x i) | none => none)
  | some (.array len e) => (match sizeB P e with | some n => some (.indexA len n x i) | none => none)
  | _ => none
noncomputable def decodeAlloc (P : Program) (e : TypeId) : Option Hot :=
  match P.info? e with
  | some i =>
    match i.zero with
    | some z => bif flat z then some (.alloc e z.cells.toList) else none
    | none => none
  | none => none
noncomputable def decodeLen (P : Program) (G n : Nat) (c : Call) : Option Hot :=
  match c.args.toList, c.argTypes.toList with
  | [x], [t] => (match P.underlying t with | some (.slice _) => one G n x fun s => some (.lenS s) | some .string => one G n x fun s => some (.lenT s) | _ => none)
  | _, _ => none
noncomputable def decode (P : Program) (G n : Nat) (op : Op) : Option Hot :=
  match op with
  | .move x => one G n x fun s => some (.move s)
  | .assign x => one G n x fun s => some (.move s)
  | .extract x i => one G n x fun s => some (.extract s i)
  | .load t a => one G n a fun s => decodeLoad P t s
  | .store t a x => one G n a fun s => one G n x fun r => decodeStore P t s r
  | .binOp op _ x y _ => one G n x fun s => one G n y fun r => some (.arith op s r)
  | .fieldAddr s x f => one G n x fun r => decodeField P s r f
  | .indexAddr t x i => one G n x fun s => one G n i fun r => decodeIndex P t s r
  | .pick c a b => one G n c fun s => one G n a fun r => one G n b fun q => some (.pick s r q)
  | .unOp o _ x => (match o with | .not => one G n x fun s => some (.unNot s) | _ => none)
  | .convert src dst x => (match P.underlying src, P.underlying dst with | some _, some (.int k) => one G n x fun s => some (.conv k s) | _, _ => none)
  | .box e x => one G n x fun s => some (.box e s)
  | .alloc e => decodeAlloc P e
  | .makeFunc fn xs ys =>
    match fn with
    | .func f =>
      match srcsOf G n xs.toList, srcsOf G n ys.toList with
      | some ss, some rs => some (.mkFunc f ss rs)
      | _, _ => none
    | _ => none
  | .call c =>
    match c.callee with
    | .builtin .len => decodeLen P G n c
    | _ => none
  | _ => none

noncomputable def hotExtract (t : Trie Value) (x : Src) (i : Nat) (h : Heap) : Option (Value × Heap) :=
  match evS t x with
  | .tuple vs =>
    match vs.toList[i]? with
    | some v => some (v, h)
    | none => none
  | _ => none
noncomputable def hotLoad (t : Trie Value) (a : Src) (h : Heap) : Option (Value × Heap) :=
  match evS t a with
  | .pointer (some ad) =>
    match h.cell ad with
    | some v => some (v, h)
    | none => none
  | _ => none
noncomputable def hotLoadN (t : Trie Value) (n : Nat) (a : Src) (h : Heap) : Option (Value × Heap) :=
  match evS t a with
  | .pointer (some ad) =>
    match cellsFrom h ad n 0 with
    | some l => some (.agg ⟨l⟩, h)
    | none => none
  | _ => none
noncomputable def hotStore (b : Bar) (t : Trie Value) (a x : Src) (h : Heap) : Option (Value × Heap) :=
  match evS t a with
  | .pointer (some ad) =>
    match h.put b ad (evS t x) with
    | some h => some (undef, h)
    | none => none
  | _ => none
noncomputable def putAll (b : Bar) (a : Addr) : List Value → Nat → Heap → Option Heap
  | [], _, h => some h
  | v :: l, i, h =>
    match h.put b (a.add i) v with
    | some h => putAll b a l (i + 1) h
    | none => none
noncomputable def hotStoreN (b : Bar) (t : Trie Value) (n : Nat) (a x : Src) (h : Heap) : Option (Value × Heap) :=
  match evS t a with
  | .pointer (some ad) =>
    match evS t x with
    | .agg cs =>
      bif Nat.beq cs.toList.length n then
        match putAll b ad cs.toList 0 h with
        | some h => some (undef, h)
        | none => none
      else none
    | _ => none
  | _ => none
noncomputable def hotArith (t : Trie Value) (op : BinOp) (x y : Src) (h : Heap) : Option (Value × Heap) :=
  match evS t x with
  | .int k a =>
    match evS t y with
    | .int k' c =>
      bif sameKind k k' then
        match xint op k a c with
        | some v => some (v, h)
        | none => none
      else none
    | _ => none
  | _ => none
noncomputable def hotField (t : Trie Value) (off : Nat) (x : Src) (h : Heap) : Option (Value × Heap) :=
  match evS t x with
  | .pointer (some a) => some (.pointer (some (a.add off)), h)
  | _ => none
noncomputable def hotIndexS (t : Trie Value) (size : Nat) (x i : Src) (h : Heap) : Option (Value × Heap) :=
  match evS t i with
  | .int _ (.ofNat i) =>
    match evS t x with
    | .slice (some a) len _ => bif Nat.ble (Nat.succ i) len then some (.pointer (some (a.add (i * size))), h) else none
    | _ => none
  | _ => none
noncomputable def hotIndexA (t : Trie Value) (len size : Nat) (x i : Src) (h : Heap) : Option (Value × Heap) :=
  match evS t i with
  | .int _ (.ofNat i) =>
    match evS t x with
    | .pointer (some a) => bif Nat.ble (Nat.succ i) len then some (.pointer (some (a.add (i * size))), h) else none
    | _ => none
  | _ => none
noncomputable def hotPick (t : Trie Value) (c x y : Src) (h : Heap) : Option (Value × Heap) :=
  match evS t c with
  | .bool v => (match v with | true => some (evS t x, h) | false => some (evS t y, h))
  | _ => none
noncomputable def hotNot (t : Trie Value) (x : Src) (h : Heap) : Option (Value × Heap) :=
  match evS t x with
  | .bool v => (match v with | true => some (.bool false, h) | false => some (.bool true, h))
  | _ => none
noncomputable def hotConv (t : Trie Value) (k : IntKind) (x : Src) (h : Heap) : Option (Value × Heap) :=
  match evS t x with
  | .int _ n =>
    match ofInt k n with
    | some v => some (v, h)
    | none => none
  | _ => none
noncomputable def newBlock (cs : List Value) (e : TypeId) (h : Heap) : Option (Value × Heap) :=
  match h.push (.cells ⟨cs⟩ e (0, 0)) with
  | some h' => some (.pointer (some ⟨h.size, 0, none⟩), h')
  | none => none
noncomputable def cellsL (v : Value) : List Value :=
  match v with
  | .agg cs => cs.toList
  | v => [v]
noncomputable def hotLen (t : Trie Value) (x : Src) (h : Heap) : Option (Value × Heap) :=
  match evS t x with
  | .slice _ n _ => some (.int .i64 (.ofNat n), h)
  | _ => none
noncomputable def hotLenT (t : Trie Value) (x : Src) (h : Heap) : Option (Value × Heap) :=
  match evS t x with
  | .string s => some (.int .i64 (.ofNat s.size), h)
  | _ => none
noncomputable def runHot (b : Bar) (t : Trie Value) (h : Heap) (k : Hot) : Option (Value × Heap) :=
  match k with
  | .move x => some (evS t x, h)
  | .extract x i => hotExtract t x i h
  | .load a => hotLoad t a h
  | .loadN n a => hotLoadN t n a h
  | .store a x => hotStore b t a x h
  | .storeN n a x => hotStoreN b t n a x h
  | .arith op x y => hotArith t op x y h
  | .fieldA off x => hotField t off x h
  | .indexS size x i => hotIndexS t size x i h
  | .indexA len size x i => hotIndexA t len size x i h
  | .pick c x y => hotPick t c x y h
  | .unNot x => hotNot t x h
  | .conv k x => hotConv t k x h
  | .box e x => newBlock (cellsL (evS t x)) e h
  | .alloc e cs => newBlock cs e h
  | .mkFunc f xs ys => some (.func (.func f) ⟨evSs t xs⟩ ⟨evSs t ys⟩, h)
  | .lenS x => hotLen t x h
  | .lenT x => hotLenT t x h

/-- What an operation of a region is, as far as the text says. -/
inductive Inst where
  | hot (k : Hot) (o : Oper)
  | call (f m : Nat) (body : Code) (xs : List Src)
  | value (x : Src) (xs : List Src)
  | other (o : Oper)
  | none

noncomputable def instCall (P : Program) (G n : Nat) (o : Oper) (c : Call) : Inst :=
  match srcsOf G n c.args.toList with
  | none => .other o
  | some xs =>
    match c.callee with
    | .value (.func f) =>
      bif bodied P f then
        match P.funcs.toList[f]? with
        | some fn => (match fn.body with | some body => bif Nat.ble c.args.toList.length fn.ntmps && Nat.ble fn.ntmps 1048576 then .call f fn.ntmps body xs else .other o | none => .other o)
        | none => .other o
      else .other o
    | .value x => (match srcOf G n x with | some s => .value s xs | none => .other o)
    | _ => .other o
noncomputable def instOf (P : Program) (G n : Nat) (o : Oper) : Inst :=
  match decode P G n o.op with
  | some k => .hot k o
  | none =>
    match o.op with
    | .call c => instCall P G n o c
    | _ => .other o
noncomputable def instAt' (P : Program) (G n : Nat) (ops : Array Oper) (i : Nat) : Inst :=
  match ops.toList[i]? with
  | Option.none => .none
  | some o => instOf P G n o
/-- The function that a value calls, and its arguments. -/
noncomputable def calledV (P : Program) (v : Value) (args : List Value) : Option (FuncId × List Value) :=
  match v with
  | .func fn first captured =>
    match fn with
    | .func f => bif bodied P f then some (f, first.toList ++ (args ++ captured.toList)) else none
    | _ => none
  | _ => none

/-! ## Running -/
abbrev Runner := Bar → LF → List LF → Heap → Option (Value × Heap)

noncomputable def dstOf (ops : Array Oper) (i : Nat) : Option Tmp :=
  match ops.toList[i]? with
  | some o => o.dst
  | none => none

/-- A frame goes on with a value that was asked for. -/
noncomputable def finishR (run : Runner) (b : Bar) (fr : LF) (st : List LF) (h : Heap) (v : Value) : Option (Value × Heap) :=
  match fr with
  | ⟨fn, n, t, todo, defers, ret, round⟩ =>
    match todo with
    | [] => none
    | item :: k =>
      match item with
      | .inRegion ops l =>
        match l with
        | i :: rest => run b ⟨fn, n, tsetO n t (dstOf ops i) v, .inRegion ops rest :: k, defers, ret, round⟩ st h
        | [] => none
      | .inRangeFunc l => run b ⟨fn, n, t, .endRangeFunc l :: k, defers, ret, round⟩ st h
      | .beginRound => run b ⟨fn, n, t, k, defers, ret, round⟩ st h
      | _ => none
noncomputable def returnTo (run : Runner) (b : Bar) (st : List LF) (h : Heap) (v : Value) : Option (Value × Heap) :=
  match st with
  | [] => some (v, h)
  | c :: st => finishR run b c st h v
noncomputable def enterL (P : Program) (f : FuncId) (args : List Value) : Option LF :=
  match P.funcs.toList[f]? with
  | some fn =>
    match fn.body with
    | some body => bif Nat.ble args.length fn.ntmps && Nat.ble fn.ntmps 1048576 then some ⟨f, fn.ntmps, ofList fn.ntmps args 0 .leaf, [.code body], [], false, none⟩ else none
    | none => none
  | none => none
noncomputable def roundL (l : Nat) (f : FuncId) (tmps : List Value) (assign body : Code) : Option LF :=
  bif Nat.ble tmps.length 1048576 then some ⟨f, tmps.length, ofList tmps.length tmps 0 .leaf, [.code assign, .beginRound, .code body], [], false, some l⟩ else none
noncomputable def applyR (run : Runner) (P : Program) (b : Bar) (fr : LF) (st : List LF) (r : Option (Next × Heap)) : Option (Value × Heap) :=
  match r with
  | none => none
  | some (x, h) =>
    match x with
    | .enter f args =>
      match enterL P f args.toList with
      | some fr' => run b fr' (fr :: st) h
      | none => none
    | .round l f tmps assign body =>
      match roundL l f tmps.toList assign body with
      | some fr' => run b fr' (fr :: st) h
      | none => none
    | _ => none
noncomputable def leaveR (run : Runner) (P : Program) (b : Bar) (fr : LF) (st : List LF) (h : Heap) (jump : Option Code) : Option (Value × Heap) :=
  match fr with
  | ⟨fn, n, t, todo, defers, ret, round⟩ =>
    match round with
    | none => bif (match jump with | none => true | some .ret => true | _ => false) then run b ⟨fn, n, t, todo, defers, true, none⟩ st h else none
    | some l =>
      match st with
      | [] => none
      | c :: st =>
        match lsem P b (Instr.endRound l jump) h with
        | some (v, h) => finishR run b c st h v
        | none => none
/-- The frame of a call. -/
noncomputable def callFrame (f m : Nat) (body : Code) (args : List Value) : LF := ⟨f, m, ofList m args 0 .leaf, [.code body], [], false, none⟩
/-- What becomes of an operation that is no other: a value; a frame that is entered. -/
inductive Upon where
  | value (v : Value) (h : Heap)
  | enter (fr : LF) (h : Heap)
  | stuck
noncomputable def coldR (P : Program) (G : Nat) (b : Bar) (n : Nat) (t : Trie Value) (h : Heap) (o : Oper) : Upon :=
  match lexec P G b (evT n t) o h with
  | none => .stuck
  | some (x, h) =>
    match x with
    | .value v => .value v h
    | .skip => .value undef h
    | .enter f args =>
      match enterL P f args.toList with
      | some fr => .enter fr h
      | none => .stuck
    | .round l f tmps assign body =>
      match roundL l f tmps.toList assign body with
      | some fr => .enter fr h
      | none => .stuck
    | _ => .stuck
noncomputable def valueR (P : Program) (G : Nat) (b : Bar) (n : Nat) (t : Trie Value) (h : Heap) (o : Oper) (x : Src) (xs : List Src) : Upon :=
  match calledV P (evS t x) (evSs t xs) with
  | some (f, args) =>
    match enterL P f args with
    | some fr => .enter fr h
    | none => .stuck
  | none => coldR P G b n t h o
noncomputable def hotR (P : Program) (G : Nat) (b : Bar) (n : Nat) (t : Trie Value) (h : Heap) (o : Oper) (k : Hot) : Upon :=
  match runHot b t h k with
  | some (v, h) => .value v h
  | none => coldR P G b n t h o
noncomputable def instR (P : Program) (G : Nat) (b : Bar) (n : Nat) (t : Trie Value) (h : Heap) (o : Oper) (x : Inst) : Upon :=
  match x with
  | .hot k o => hotR P G b n t h o k
  | .call f m body xs => .enter (callFrame f m body (evSs t xs)) h
  | .value x xs => valueR P G b n t h o x xs
  | .other o => coldR P G b n t h o
  | .none => .stuck

/-- The operations of a region one behind the other. -/
noncomputable def seqR (run : Runner) (P : Program) (G : Nat) (b : Bar) (fn n : Nat) (defers : List Deferred) (round : Option Nat) (st : List LF) (ops : Array Oper) (k : List Item) (l : List Nat) : Trie Value → Heap → Option (Value × Heap) :=
  List.rec (motive := fun _ => Trie Value → Heap → Option (Value × Heap)) (fun t h => run b ⟨fn, n, t, k, defers, false, round⟩ st h)
    (fun i rest ih t h =>
      match ops.toList[i]? with
      | none => none
      | some o =>
        bif wantedT ops o.guard t n then
          match instR P G b n t h o (instAt' P G n ops i) with
          | .value v h => ih (tsetO n t o.dst v) h
          | .enter fr h => run b fr (⟨fn, n, t, .inRegion ops (i :: rest) :: k, defers, false, round⟩ :: st) h
          | .stuck => none
        else ih (tsetO n t o.dst undef) h) l
noncomputable def rangeFuncR (run : Runner) (P : Program) (G : Nat) (b : Bar) (fr : LF) (st : List LF) (h : Heap) (f : Operand) (params : Array Tmp) (assign body : Code) (k : List Item) : Option (Value × Heap) :=
  match fr with
  | ⟨fn, n, t, todo, defers, ret, round⟩ =>
    match (match srcOf G n f with | some s => evS t s | none => undef) with
    | .func fv first captured =>
      match lsem P b (Instr.enterLoop fn ⟨toL t n []⟩ params assign body round) h with
      | some ((l, mark), h) => applyR run P b ⟨fn, n, t, .inRangeFunc l :: k, mark ++ defers, ret, round⟩ st (linvoke P b (.fn fv captured) (first.toList ++ [.func (.yield l) #[] #[]]) h)
      | none => none
    | _ => none
/-- What a function returns. -/
noncomputable def resultsL (P : Program) (b : Bar) (n : Nat) (t : Trie Value) (h : Heap) : List ResultVar → Option (List Value)
  | [] => some []
  | r :: rs =>
    match r with
    | .tmp i =>
      match resultsL P b n t h rs with
      | some l => some (evT n t (.tmp i) :: l)
      | none => none
    | .cell i ty =>
      match lsem P b (do Go.loadVar ty (← Go.asAddr (evT n t (.tmp i)))) h with
      | some (v, _) =>
        match resultsL P b n t h rs with
        | some l => some (v :: l)
        | none => none
      | none => none
noncomputable def oneOf (l : List Value) : Value :=
  match l with
  | [v] => v
  | l => .tuple ⟨l⟩
noncomputable def retR (run : Runner) (P : Program) (b : Bar) (fr : LF) (st : List LF) (h : Heap) : Option (Value × Heap) :=
  match fr with
  | ⟨fn, n, t, todo, defers, ret, round⟩ =>
    match defers with
    | [] =>
      match P.funcs.toList[fn]? with
      | none => none
      | some f =>
        match resultsL P b n t h f.results.toList with
        | some l => returnTo run b st h (oneOf l)
        | none => none
    | d :: ds =>
      match d with
      | ⟨.collected block, _⟩ =>
        match lsem P b (Instr.takeDeferred block) h with
        | some ([], h) => run b ⟨fn, n, t, todo, ds, ret, round⟩ st h
        | _ => none
      | _ => none
noncomputable def condR (run : Runner) (b : Bar) (fr : LF) (st : List LF) (h : Heap) (c : Operand) (thn els : Code) (k : List Item) : Option (Value × Heap) :=
  match fr with
  | ⟨fn, n, t, todo, defers, ret, round⟩ =>
    match evT n t c with
    | .bool x =>
      match x with
      | true => run b ⟨fn, n, t, .code thn :: k, defers, ret, round⟩ st h
      | false => run b ⟨fn, n, t, .code els :: k, defers, ret, round⟩ st h
    | _ => none

/-! ## A region whose order is drawn -/
/-- What an operation comes behind, as bits. -/
noncomputable def depsOf (ops : Array Oper) : List Nat := (Region.before ops).toList

/-- Operations that have nothing to do with memory. -/
noncomputable def silentOp : Op → Bool
  | .move _ | .assign _ | .pick .. | .build .. | .binOp .. | .unOp .. | .makeInterface .. | .makeFunc .. | .field .. | .index .. | .extract .. | .nilCheck _ | .fieldAddr .. | .indexAddr .. => true
  | .call { callee := .builtin .max, .. } | .call { callee := .builtin .min, .. } => true
  | _ => false
noncomputable def noisy (ops : List Oper) (i : Nat) : Bool := match ops[i]? with | some o => !silentOp o.op | none => false

/-- What an operation comes behind, by its own text and what these come behind. -/
noncomputable def closeOf (ds : List Nat) : List Edge → Nat
  | [] => 0
  | e :: es => bif Region.binds .any e then Nat.lor (Nat.lor (Nat.pow 2 e.on) (ds.getD e.on 0)) (closeOf ds es) else closeOf ds es
noncomputable def edgesOk (i : Nat) : List Edge → Bool
  | [] => true
  | e :: es => (!Region.binds .any e || Nat.ble (Nat.succ e.on) i) && edgesOk i es
/-- The text of the region is such that each operation's operands are known by what it comes behind. -/
noncomputable def regionOk (ops : Array Oper) (ds : List Nat) : Bool :=
  (List.range ops.toList.length).all fun i =>
    match ops.toList[i]? with
    | none => false
    | some o =>
      edgesOk i o.after.toList && Nat.beq (ds.getD i 0) (closeOf ds o.after.toList) && Nat.ble (Nat.succ (ds.getD i 0)) (Nat.pow 2 i) &&
      (List.range ops.toList.length).all fun j =>
        Nat.beq j i ||
        match (ops.toList[j]?).bind (·.dst) with
        | none => true
        | some t => (match o.dst with | some t' => !Nat.beq t t' | none => true) && ((ds.getD i 0).testBit j || (ds.getD j 0).testBit i || !(o.looksAt ops).contains t)

/-- All noisy operations below a number are among the bits. -/
noncomputable def covers (ops : List Oper) (d : Nat) : Nat → Bool
  | 0 => true
  | n + 1 => (!noisy ops n || d.testBit n) && covers ops d n

/-- From where on each noisy operation comes behind all noisy ones that stand before it. -/
noncomputable def tailFrom (ops : List Oper) (ds : List Nat) : Nat → Nat
  | 0 => 0
  | n + 1 => if !noisy ops n || covers ops (ds.getD n 0) n then tailFrom ops ds n else n + 1

noncomputable def blockOf : Value → List Nat
  | .pointer (some a) => [a.block]
  | .slice (some a) _ _ => [a.block]
  | .map (some r) => [r]
  | _ => []

/-- What an operation may look at of what stands there already, where that is known; and what it may write of it. -/
noncomputable def touchOf (ev : Operand → Value) (op : Op) : Option (List Nat) × Option Nat :=
  bif silentOp op then (some [], none) else
  match op with
  | .alloc _ | .box .. | .buildSlice .. | .makeSlice .. | .makeMap .. => (some [], none)
  | .load _ a => (some (blockOf (ev a)), none)
  | .store _ a _ => (some (blockOf (ev a)), (blockOf (ev a)).head?)
  | .lookup _ m _ _ => (some (blockOf (ev m)), none)
  | .mapUpdate _ m _ _ | .insert _ m _ _ | .mapEntry _ m _ | .entryStore _ m _ _ => (some (blockOf (ev m)), (blockOf (ev m)).head?)
  | .slice _ x _ _ _ => (some (blockOf (ev x)), none)
  | .call { callee := .builtin .append, args, .. } =>
    match args.toList with
    | [s, x] => (some (blockOf (ev s) ++ blockOf (ev x)), (blockOf (ev s)).head?)
    | _ => (none, none)
  | .call { callee := .builtin .copy, args, .. } =>
    match args.toList with
    | [s, x] => (some (blockOf (ev s) ++ blockOf (ev x)), (blockOf (ev s)).head?)
    | _ => (none, none)
  | .call { callee := .builtin .len, args, .. } =>
    match args.toList with
    | [s] => (some (blockOf (ev s)), none)
    | _ => (none, none)
  | _ => (none, none)

/-- What one operation has done: the numbers that it gave out; what it may look at, what it may write. -/
structure Rec where
  v : Value
  s : Nat
  e : Nat
  touch : Option (List Nat)
  w : Option Nat

/-- Numbers from 'a' on, 'n' of them, as they lie in the second heap, put into the first. -/
noncomputable def carry (from_ : Heap) (n : Nat) : Nat → Heap → Heap :=
  Nat.rec (motive := fun _ => Nat → Heap → Heap) (fun _ h => h) (fun _ ih a h => ih (Nat.succ a) (h.set a (from_.get a))) n
/-- Numbers from 'a' on, 'n' of them, taken away. -/
noncomputable def strike (n : Nat) : Nat → Heap → Heap :=
  Nat.rec (motive := fun _ => Nat → Heap → Heap) (fun _ h => h) (fun _ ih a h => ih (Nat.succ a) (h.set a none)) n

/-- The heap without what those have made that an operation does not come behind. -/
noncomputable def behind (d : Nat) : Nat → List Rec → Heap → Heap
  | _, [], h => h
  | i, x :: xs, h => behind d (i + 1) xs (bif d.testBit i then h else strike (x.e - x.s) x.s h)

/-- Only some numbers of a heap. -/
noncomputable def only (h : Heap) : List Nat → Heap
  | [] => ⟨h.size, .leaf⟩
  | i :: l => bif Nat.ble (Nat.succ i) h.size then (only h l).set i (h.get i) else only h l

/-- An operation, whole. -/
noncomputable def opWhole (run : Runner) (P : Program) (G : Nat) (b : Bar) (n : Nat) (t : Trie Value) (o : Oper) (x : Inst) (h : Heap) : Option (Value × Heap) :=
  match instR P G b n t h o x with
  | .value v h => some (v, h)
  | .enter fr h => (match fr.round with | none => run b fr [] h | some _ => none)
  | .stuck => none

/-- Only some temporaries. -/
noncomputable def restT (n : Nat) (t : Trie Value) : List Nat → Trie Value
  | [] => .leaf
  | d :: l => tset n (restT n t l) d (tget t d)
/-- One operation in the text's order. -/
noncomputable def wOk (b : Bar) (full : Heap) (w : Option Nat) : Bool := match w with | some x => b.ok x && (full.get x).isSome | none => true
noncomputable def putBack (h : Heap) (w : Option Nat) (h1 : Heap) : Heap := match w with | some x => h1.set x (h.get x) | none => h1
noncomputable def recTouch (run : Runner) (P : Program) (G : Nat) (b : Bar) (n : Nat) (o : Oper) (x : Inst) (t : Trie Value) (full : Heap) (l : List Nat) (w : Option Nat) : Option (Rec × Heap) :=
  bif wOk b full w then
    match opWhole run P G ⟨full.size, w⟩ n t o x (only full l) with
    | some (v, h) =>
      bif Nat.ble full.size h.size && (!silentOp o.op || Nat.ble h.size full.size) then
        some (⟨v, full.size, h.size, some l, w⟩, putBack h w (carry h (h.size - full.size) full.size ⟨h.size, full.t⟩))
      else none
    | none => none
  else none
noncomputable def recTail (run : Runner) (P : Program) (G : Nat) (b : Bar) (n : Nat) (o : Oper) (x : Inst) (t : Trie Value) (full : Heap) : Option (Rec × Heap) :=
  match opWhole run P G b n t o x full with
  | some (v, h) => bif Nat.ble full.size h.size then some (⟨v, full.size, h.size, none, none⟩, h) else none
  | none => none
noncomputable def recBehind (run : Runner) (P : Program) (G : Nat) (n : Nat) (o : Oper) (x : Inst) (t : Trie Value) (full : Heap) (d : Nat) (recs : List Rec) : Option (Rec × Heap) :=
  match opWhole run P G ⟨full.size, none⟩ n t o x (behind d 0 recs full) with
  | some (v, h) => bif Nat.ble full.size h.size then some (⟨v, full.size, h.size, none, none⟩, carry h (h.size - full.size) full.size ⟨h.size, full.t⟩) else none
  | none => none
noncomputable def opRec (run : Runner) (P : Program) (G : Nat) (b : Bar) (ops : Array Oper) (ds : List Nat) (tl : Nat) (n : Nat) (o : Oper) (i : Nat) (t : Trie Value) (full : Heap) (recs : List Rec) : Option (Rec × Heap) :=
  bif wantedT ops o.guard t n then
    bif (operandsL o.op).all (okOperand G) then
      match touchOf (evT n t) o.op with
      | (tc, w) =>
        match tc with
        | some l => recTouch run P G b n o (instAt' P G n ops i) t full l w
        | none => bif Nat.ble tl i then recTail run P G b n o (instAt' P G n ops i) t full else recBehind run P G n o (instAt' P G n ops i) t full (ds.getD i 0) recs
    else none
  else some (⟨undef, full.size, full.size, some [], none⟩, full)

noncomputable def opsRun (run : Runner) (P : Program) (G : Nat) (b : Bar) (ops : Array Oper) (ds : List Nat) (tl : Nat) (n : Nat) : List Oper → Nat → Trie Value → Heap → List Rec → Option (Trie Value × Heap × List Rec)
  | [], _, t, full, recs => some (t, full, recs)
  | o :: os, i, t, full, recs =>
    match opRec run P G b ops ds tl n o i (restT n t (o.looksAt ops)) full recs with
    | some (r, full) => opsRun run P G b ops ds tl n os (i + 1) (tsetO n t o.dst r.v) full (recs ++ [r])
    | none => none

/-- Of two operations that come in either order, neither writes what the other one looks at. -/
noncomputable def apartRecs (ds : List Nat) (recs : List Rec) : Bool :=
  recs.all (fun r => r.w.isNone) ||
  (List.range recs.length).all fun i => (List.range recs.length).all fun j =>
    Nat.beq i j || (ds.getD i 0).testBit j || (ds.getD j 0).testBit i ||
    match recs[i]?, recs[j]? with
    | some x, some y =>
      match y.w, x.touch with
      | none, _ => true
      | some r, some l => !l.contains r
      | some _, none => false
    | _, _ => false

noncomputable def regionR (run : Runner) (P : Program) (G : Nat) (b : Bar) (fr : LF) (st : List LF) (h : Heap) (ops : Array Oper) (k : List Item) : Option (Value × Heap) :=
  match fr with
  | ⟨fn, n, t, todo, defers, ret, round⟩ =>
    bif regionOk ops (depsOf ops) then
      match opsRun run P G b ops (depsOf ops) (tailFrom ops.toList (depsOf ops) ops.toList.length) n ops.toList 0 t h [] with
      | some (t, full, recs) => bif apartRecs (depsOf ops) recs && Nat.ble full.size 1048576 then run b ⟨fn, n, t, k, defers, ret, round⟩ st full else none
      | none => none
    else none

noncomputable def codeR (run : Runner) (P : Program) (G : Nat) (b : Bar) (fr : LF) (st : List LF) (h : Heap) (c : Code) (k : List Item) : Option (Value × Heap) :=
  match fr with
  | ⟨fn, n, t, todo, defers, ret, round⟩ =>
    match c with
    | .skip => run b ⟨fn, n, t, k, defers, ret, round⟩ st h
    | .label _ => run b ⟨fn, n, t, k, defers, ret, round⟩ st h
    | .seq a c => run b ⟨fn, n, t, .code a :: .code c :: k, defers, ret, round⟩ st h
    | .cond x thn els => condR run b fr st h x thn els k
    | .block id body => run b ⟨fn, n, t, .code body :: .inBlock id :: k, defers, ret, round⟩ st h
    | .loop body => run b ⟨fn, n, t, .code body :: .inLoop body :: k, defers, ret, round⟩ st h
    | .scope body => run b ⟨fn, n, t, .code body :: .inScope body :: k, defers, ret, round⟩ st h
    | .ret => leaveR run P b fr st h (some .ret)
    | .exit id =>
      match exitTo id k with
      | some k => run b ⟨fn, n, t, k, defers, ret, round⟩ st h
      | none => leaveR run P b fr st h (some (.exit id))
    | .goto l =>
      match gotoIn l k with
      | some k => run b ⟨fn, n, t, k, defers, ret, round⟩ st h
      | none => leaveR run P b fr st h (some (.goto l))
    | .rangeFunc f params assign body => rangeFuncR run P G b fr st h f params assign body k
    | .region _ ops draw =>
      match draw with
      | false => seqR run P G b fn n defers round st ops k (List.range ops.toList.length) t h
      | true => regionR run P G b fr st h ops k
    | .refuse _ => none

noncomputable def itemR (run : Runner) (P : Program) (G : Nat) (b : Bar) (fr : LF) (st : List LF) (h : Heap) (item : Item) (k : List Item) : Option (Value × Heap) :=
  match fr with
  | ⟨fn, n, t, todo, defers, ret, round⟩ =>
    match item with
    | .code c => codeR run P G b fr st h c k
    | .inRegion ops l =>
      match l with
      | [] => run b ⟨fn, n, t, k, defers, ret, round⟩ st h
      | i :: rest => seqR run P G b fn n defers round st ops k (i :: rest) t h
    | .inBlock _ => run b ⟨fn, n, t, k, defers, ret, round⟩ st h
    | .inScope _ => run b ⟨fn, n, t, k, defers, ret, round⟩ st h
    | .inLoop body => run b ⟨fn, n, t, .code body :: .inLoop body :: k, defers, ret, round⟩ st h
    | .beginRound =>
      match round with
      | some l =>
        match lsem P b (Instr.beginRound l) h with
        | some (_, h) => run b ⟨fn, n, t, k, defers, ret, round⟩ st h
        | none => none
      | none => none
    | .endRangeFunc l =>
      match lsem P b (Instr.endLoop l) h with
      | some (jump, h) => run b ⟨fn, n, t, (jump.map Item.code).toList ++ k, defers, ret, round⟩ st h
      | none => none
    | _ => none

noncomputable def runBody (P : Program) (G : Nat) (run : Runner) : Runner := fun b fr st h =>
  match fr with
  | ⟨fn, n, t, todo, defers, ret, round⟩ =>
    match ret with
    | true => retR run P b fr st h
    | false =>
      match todo with
      | [] => leaveR run P b fr st h none
      | item :: k => itemR run P G b fr st h item k

noncomputable def lrun (P : Program) (G : Nat) (n : Nat) : Runner := Nat.rec (motive := fun _ => Runner) (fun _ _ _ _ => none) (fun _ ih => runBody P G ih) n

/-- A call that needs nothing: its value. -/
noncomputable def lstart (P : Program) (G n : Nat) (f : FuncId) : Option (Value × Heap) :=
  match enterL P f [] with
  | some fr => lrun P G n ⟨0, none⟩ fr [] ⟨G, .leaf⟩
  | none => none
/-- A table that lies below all that a run makes: its block's number, its cells. -/
structure Tab where
  g : Nat
  cs : List Value
noncomputable def baseT (G : Nat) (ts : List Tab) : Heap := List.rec (motive := fun _ => Heap) ⟨G, .leaf⟩ (fun t _ ih => ih.set t.g (some (.cells ⟨t.cs⟩ 0 (1, 0)))) ts
noncomputable def tabsOk (G : Nat) : List Tab → Bool
  | [] => true
  | t :: ts => Nat.ble (t.g + 1) G && flatL t.cs && !t.cs.isEmpty && tabsOk G ts
noncomputable def lstartT (P : Program) (G : Nat) (ts : List Tab) (n : Nat) (f : FuncId) (args : List Value) : Option (Value × Heap) :=
  bif tabsOk G ts && flatL args then
    match enterL P f args with
    | some fr => lrun P G n ⟨G, none⟩ fr [] (baseT G ts)
    | none => none
  else none
def isTrue (r : Option (Value × Heap)) : Bool := match r with | some (.bool b, _) => b | _ => false
end Go.Proofs.YtdnccdobnhbpeaaDoor.Ev

