/- Sources in plain terms: names, letters, formats; rules, eras, zones, links; what is wrong with them. -/
import Derived.Test.YtombhnjmelidcaaTxL
import Derived.Test.YtombhnjmelidcaaCalOn
namespace Go.Proofs.Ytombhnjmelidcaa.Sx
open Tx (Bs)
set_option linter.unusedSimpArgs false
set_option linter.unusedVariables false

def letB (c : UInt8) : Bool := decide (97 ≤ c.toNat ∧ c.toNat ≤ 122) || decide (65 ≤ c.toNat ∧ c.toNat ≤ 90)
def digB (c : UInt8) : Bool := decide (48 ≤ c.toNat ∧ c.toNat ≤ 57)
def nameC (c : UInt8) : Bool := letB c || digB c || c == 95 || c == 45 || c == 47 || c == 43
def plainC (c : UInt8) : Bool := letB c || digB c || c == 43 || c == 45
def headL : Bs → Bool
  | [] => false
  | c :: _ => letB c
def nameB (s : Bs) : Bool := headL s && decide (s.length ≤ 24) && s.all nameC
def lettersB (s : Bs) : Bool := s.all letB && decide (s.length ≤ 24)
def plainB (s : Bs) : Bool := s.all plainC
/- how many marks a format has; none: a sign that may not stand there. (first: nothing is ahead) -/
def fmtM : Bool → Bs → Option Nat
  | _, [] => some 0
  | f, c :: r =>
    if c = 47 then (if f = true ∨ r = [] then none else (fmtM false r).map (· + 1))
    else if c = 37 then (if r.head? = some 115 then (fmtM false r).map (· + 1) else none)
    else if plainC c = true then fmtM false r else none
def few : Option Nat → Bool
  | none => false
  | some m => decide (m ≤ 1)
def formatB (s : Bs) : Bool := !s.isEmpty && decide (s.length ≤ 24) && few (fmtM true s)

structure Rl where
  name : Bs
  frm : Int
  to : Int
  month : Int
  kind : Int
  wk : Int
  n : Int
  at_ : Int
  clock : Int
  save : Int
  letter : Bs
structure Er where
  shift : Int
  rules : Bs
  save : Int
  format : Bs
  opn : Bool
  uy : Int
  um : Int
  ud : Int
  uat : Int
  uclock : Int
structure Zn where
  name : Bs
  eras : List Er
structure Lk where
  to : Bs
  name : Bs
structure Sr where
  rules : List Rl
  zones : List Zn
  links : List Lk

def inB (n a b : Int) : Bool := decide (a ≤ n ∧ n ≤ b)
def ruleE (r : Rl) : Int :=
  if (nameB r.name && lettersB r.letter) = false then 1
  else if (inB r.frm 1900 r.to && decide (r.to ≤ 2100)) = false then 3
  else if inB r.month 1 12 = false then 3
  else if Cv.onE 2001 r.month r.kind r.wk r.n ≠ 0 then Cv.onE 2001 r.month r.kind r.wk r.n
  else if inB r.at_ 0 172800 = false then 3
  else if inB r.clock 1 3 = false then 7
  else if inB r.save 0 10800 = false then 3 else 0
def untilZ (x : Er) : Bool := decide (x.uy = 0 ∧ x.um = 0 ∧ x.ud = 0 ∧ x.uat = 0 ∧ x.uclock = 0)
def endE (x : Er) : Int :=
  if x.opn = true then (if untilZ x = true then 0 else 1)
  else if Cv.vldB x.uy x.um x.ud = false then 3
  else if inB x.uat 0 172800 = false then 3
  else if x.uclock = 2 ∨ x.uclock = 3 then 0 else 7
def eraE (x : Er) (last : Bool) : Int :=
  if ((x.rules.isEmpty || nameB x.rules) && formatB x.format) = false then 1
  else if inB x.shift (-64800) 64800 = false then 3
  else if inB x.save 0 10800 = false then 3
  else if (x.rules.isEmpty || decide (x.save = 0)) = false then 1
  else if x.opn ≠ last then 4
  else endE x
def erasE : List Er → Int
  | [] => 0
  | [x] => eraE x true
  | x :: y :: r => if eraE x false ≠ 0 then eraE x false else erasE (y :: r)
def zoneE (z : Zn) : Int := if (nameB z.name && !z.eras.isEmpty) = false then 1 else erasE z.eras
def linkE (l : Lk) : Int := if (nameB l.to && nameB l.name) = false then 1 else 0
def firstE {α : Type} (f : α → Int) : List α → Int
  | [] => 0
  | x :: r => if f x ≠ 0 then f x else firstE f r
def manyB (s : Sr) : Bool := decide (40 < s.rules.length) || decide (20 < s.zones.length) || decide (20 < s.links.length) || s.zones.any fun z => decide (8 < z.eras.length)
def orE (a b : Int) : Int := if a ≠ 0 then a else b
def srcE (s : Sr) : Int := if manyB s = true then 2 else orE (firstE ruleE s.rules) (orE (firstE zoneE s.zones) (firstE linkE s.links))

/- what fields say -/
def val : Int → Bs → Int
  | n, [] => n
  | n, c :: r => val (10 * n + (c.toNat : Int) - 48) r
def num (least most : Nat) (s : Bs) : Option Int := if least ≤ s.length ∧ s.length ≤ most ∧ s.all digB = true then some (val 0 s) else none
/- which of texts of three signs each it is -/
def th (s : Bs) : Nat → Bs → Int
  | k, a :: b :: c :: r => if [a, b, c] = s then k else th s (k + 1) r
  | _, _ => -1
def months : Bs := [74, 97, 110, 70, 101, 98, 77, 97, 114, 65, 112, 114, 77, 97, 121, 74, 117, 110, 74, 117, 108, 65, 117, 103, 83, 101, 112, 79, 99, 116, 78, 111, 118, 68, 101, 99]
def weekdays : Bs := [83, 117, 110, 77, 111, 110, 84, 117, 101, 87, 101, 100, 84, 104, 117, 70, 114, 105, 83, 97, 116]
def monthO (s : Bs) : Option Int := if th s 0 months < 0 then none else some (th s 0 months + 1)
def wkO (s : Bs) : Option Int := if th s 0 weekdays < 0 then none else some (th s 0 weekdays)
structure Fm where
  kind : Int
  wk : Int
  n : Int
def lastW : Bs := [108, 97, 115, 116]
def formC (s : Bs) : Prop := 5 < s.length ∧ s[4]? = some 61 ∧ (s[3]? = some 62 ∨ s[3]? = some 60)
instance (s : Bs) : Decidable (formC s) := by unfold formC; infer_instance
def formO (s : Bs) : Option Fm :=
  if s.take 4 = lastW then (wkO (s.drop 4)).map fun w => ⟨2, w, 0⟩
  else if formC s then
    (wkO (s.take 3)).bind fun w => (num 1 2 (s.drop 5)).map fun n => ⟨if s[3]? = some 60 then 4 else 3, w, n⟩
  else (num 1 2 s).map fun n => ⟨1, 0, n⟩
def colons : Bs → List Bs
  | [] => [[]]
  | c :: r => if c = 58 then [] :: colons r else (match colons r with | [] => [[c]] | x :: xs => (c :: x) :: xs)
def sixO (s : Bs) : Option Int := (num 2 2 s).bind fun n => if 59 < n then none else some n
def spanO (s : Bs) : Option Int :=
  if s = [48] then some 0 else
  match colons s with
  | [h, m] => (num 1 2 h).bind fun a => (sixO m).map fun b => 3600 * a + 60 * b
  | [h, m, t] => (num 1 2 h).bind fun a => (sixO m).bind fun b => (sixO t).map fun c => 3600 * a + 60 * b + c
  | _ => none
def kindO (none_ : Int) (c : UInt8) : Int := if c = 117 then 3 else if c = 115 then 2 else if c = 119 then 1 else none_
def clockO (none_ : Int) (s : Bs) : Option (Int × Int) :=
  match s.getLast? with
  | none => none
  | some c => if digB c = true then (spanO s).map fun n => (n, none_)
    else if c = 117 ∨ c = 115 ∨ c = 119 then (spanO s.dropLast).map fun n => (n, kindO none_ c) else none
def only : Bs := [111, 110, 108, 121]
def maxW : Bs := [109, 97, 120]
def toO (from_ : Int) (s : Bs) : Option Int := if s = only then some from_ else if s = maxW then some 2100 else num 4 4 s
def letterO (s : Bs) : Option Bs := if s = [45] then some [] else if s ≠ [] ∧ lettersB s = true then some s else none
def nameO (s : Bs) : Option Bs := if nameB s = true then some s else none
def shiftO (s : Bs) : Option Int := if s.head? = some 45 then (spanO s.tail).map fun n => -n else spanO s
def rulesO (s : Bs) : Option (Bs × Int) :=
  if s = [45] then some ([], 0)
  else if (match s with | [] => false | c :: _ => digB c) = true then (if s = [48] then none else (spanO s).map fun n => ([], n))
  else if nameB s = true then some (s, 0) else none
def formatO (s : Bs) : Option Bs := if formatB s = true then some s else none
def ruleO : List Bs → Option (Rl × List Bs)
  | a :: b :: c :: d :: e :: f :: g :: h :: rest =>
    (nameO a).bind fun name => (num 4 4 b).bind fun frm => (toO frm c).bind fun to => (monthO d).bind fun month => (formO e).bind fun fm =>
    (clockO 1 f).bind fun ac => (spanO g).bind fun save => (letterO h).map fun letter => (⟨name, frm, to, month, fm.kind, fm.wk, fm.n, ac.1, ac.2, save, letter⟩, rest)
  | _ => none
def eraO : List Bs → Option (Er × List Bs)
  | a :: b :: c :: rest =>
    (shiftO a).bind fun shift => (rulesO b).bind fun rs => (formatO c).bind fun format =>
    match rest with
    | [] => some (⟨shift, rs.1, rs.2, format, true, 0, 0, 0, 0, 0⟩, [])
    | y :: m :: d :: t :: more =>
      (num 4 4 y).bind fun uy => (monthO m).bind fun um => (num 1 2 d).bind fun ud => (clockO 2 t).bind fun ac =>
      if ac.2 = 1 then none else some (⟨shift, rs.1, rs.2, format, false, uy, um, ud, ac.1, ac.2⟩, more)
    | _ => none
  | _ => none
def linkO : List Bs → Option (Lk × List Bs)
  | a :: b :: rest => (nameO a).bind fun to => (nameO b).map fun name => (⟨to, name⟩, rest)
  | _ => none
/- what lines say, one behind the other -/
structure St where
  src : Sr
  must : Bool
def addEra (x : Er) : List Zn → List Zn
  | [] => []
  | [z] => [⟨z.name, z.eras ++ [x]⟩]
  | z :: y :: r => z :: addEra x (y :: r)
def ruleW : Bs := [82, 117, 108, 101]
def zoneW : Bs := [90, 111, 110, 101]
def linkW : Bs := [76, 105, 110, 107]
def whole {α : Type} : Option (α × List Bs) → Option α
  | some (a, []) => some a
  | _ => none
def zoneO : List Bs → Option ((Bs × Er) × List Bs)
  | n :: fs => (nameO n).bind fun name => (eraO fs).map fun p => ((name, p.1), p.2)
  | [] => none
def wordO (st : Sr) : List Bs → Option St
  | [] => none
  | w :: fs =>
    if w = ruleW then (whole (ruleO fs)).map fun r => ⟨⟨st.rules ++ [r], st.zones, st.links⟩, false⟩
    else if w = zoneW then (whole (zoneO fs)).map fun p => ⟨⟨st.rules, st.zones ++ [⟨p.1, [p.2]⟩], st.links⟩, !p.2.opn⟩
    else if w = linkW then (whole (linkO fs)).map fun l => ⟨⟨st.rules, st.zones, st.links ++ [l]⟩, false⟩
    else none
def lineO (st : St) (l : Tx.Ln) : Option St :=
  if l.inner ≠ st.must then none
  else if st.must = true then (whole (eraO l.fields)).map fun x => ⟨⟨st.src.rules, addEra x st.src.zones, st.src.links⟩, !x.opn⟩
  else wordO st.src l.fields
def linesO : St → List Tx.Ln → Except Int St
  | st, [] => .ok st
  | st, l :: ls => match lineO st l with
    | none => .error l.number
    | some st' => linesO st' ls
structure Pr where
  src : Sr
  number : Int
  err : Int
def noSr : Sr := ⟨[], [], []⟩
def parse (s : Bs) : Pr :=
  if (Tx.split s).err ≠ 0 then ⟨noSr, (Tx.split s).number, (Tx.split s).err⟩ else
  match linesO ⟨noSr, false⟩ (Tx.split s).lines with
  | .error n => ⟨noSr, n, 1⟩
  | .ok st => if st.must = true then ⟨noSr, 0, 1⟩ else if srcE st.src ≠ 0 then ⟨noSr, 0, srcE st.src⟩ else ⟨st.src, 0, 0⟩
end Go.Proofs.Ytombhnjmelidcaa.Sx
