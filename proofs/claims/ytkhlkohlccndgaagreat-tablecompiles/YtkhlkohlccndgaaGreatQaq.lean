/- Part of the proof: Ei OpR OpS TbI Ha Ca Cb Cc Cd Ce Cf Cg Dd De Fa Hb Fb Eg Eh Hc He. -/
import Derived.Test.YtkhlkohlccndgaaGreatQz
import Derived.Test.YtkhlkohlccndgaaGreatQai
import Derived.Test.YtkhlkohlccndgaaGreatQak
import Derived.Test.YtkhlkohlccndgaaGreatQaa
import Derived.ProofKit
import Derived.OpenShut
import Derived.Lib.SmallJoins
import Derived.Deep.Slices
import Derived.Deep.Strs
import Derived.Carry
import Derived.Test.YtkhlkohlccndgaaGreatQal
import Derived.Test.YtkhlkohlccndgaaGreatQap
import Derived.Deep.DeepCutAuto
import Derived.Test.YtkhlkohlccndgaaGreatQaj
set_option linter.unusedVariables false
set_option linter.unusedSimpArgs false
set_option maxRecDepth 100000
set_option maxHeartbeats 16000000
namespace Go.Proofs.YtkhlkohlccndgaaGreat
section
open Go.RowKit Go.Shelf
attribute [local go_sem] Oper.semAt_some
attribute [local go_sem ↓] Go.wp_at_zero Go.wp_at_succ
end
section
open Go.ChangeShapes Go.WideShapes Go.ChangeAt Go.RowKit Go.Joins

theorem own : ownKnob Tryz.prog.godebug = none := by kernel_rfl
theorem laidOut : laidOutB Tryz.prog = true := by kernel_rfl
theorem lH : Tryz.prog.cellsOf 3 = 1 := by kernel_rfl
theorem nL : Tryz.prog.cellsOf 9 = 1 := by kernel_rfl
theorem Bh : Tryz.prog.cellsOf 38 = 3 := by kernel_rfl
theorem Bj : Tryz.prog.cellsOf 40 = 11 := by kernel_rfl

section
variable {H : Type} {enc : TypeId × Value → H} {w : World} {sp : Nat → Bool} {held : Bool} {fuel : Nat} {cs : List Value} {x : DataW H × List MemPlace}
theorem A7 (b o i : Nat) : (⟨b, o, none⟩ : Addr).add i = ⟨b, o + i, none⟩ := by simp [Addr.add]
theorem yj {a : Addr} {v : Value} (h : w.cell? a = some v) : a.block < w.heap.size := by
 unfold World.cell? at h
 split at h
 ·rename_i hb; exact (q4A.1 hb).1
 ·cases h
theorem uL (s : ByteArray) : af s.data.toList = .string s := by unfold af; congr 1
theorem M8 (h : DataW.trod enc Tryz.prog w 0 sp held fuel 38 cs = some x) : ∃ a b c : Int, cs = [.int .i64 a, .int .i64 b, .int .i64 c] := by
 cases fuel with
 | zero => simp [DataW.trod] at h
 | succ n =>
   unfold DataW.trod at h
   rw [Tryz.underlying38] at h
   simp [Bh, lH, List.mapM_cons, Option.bind_eq_some_iff] at h
   obtain ⟨hlen, a1, b1, h1, l, ⟨a2, b2, h2, l3, ⟨a3, b3, h3, _⟩, _⟩, _⟩ := h
   match cs, hlen with
   | [u, v, z], _ =>
     simp at h1 h2 h3
     obtain ⟨k1, e1, _⟩ := DataW.trod_int Tryz.underlying3 h1
     obtain ⟨k2, e2, _⟩ := DataW.trod_int Tryz.underlying3 h2
     obtain ⟨k3, e3, _⟩ := DataW.trod_int Tryz.underlying3 h3
     simp at e1 e2 e3
     subst e1 e2 e3
     exact ⟨k1, k2, k3, rfl⟩
theorem Na (h : DataW.trod enc Tryz.prog w 0 sp held fuel 40 cs = some x) : ∃ r : Sx.Rl, cs = aG r ∧ r.name.length ≤ maxLen ∧ r.letter.length ≤ maxLen := by
 cases fuel with
 | zero => simp [DataW.trod] at h
 | succ n =>
   unfold DataW.trod at h
   rw [Tryz.underlying40] at h
   simp [Bj, lH, nL, Bh, List.mapM_cons, Option.bind_eq_some_iff] at h
   obtain ⟨hlen, a1, b1, h1, _, ⟨a2, b2, h2, _, ⟨a3, b3, h3, _, ⟨a4, b4, h4, _, ⟨a5, b5, h5, _, ⟨a6, b6, h6, _, ⟨a7, b7, h7, _, ⟨a8, b8, h8, _, ⟨a9, b9, h9, _⟩, _⟩, _⟩, _⟩, _⟩, _⟩, _⟩, _⟩, _⟩ := h
   match cs, hlen with
   | [c0, c1, c2, c3, c4, c5, c6, c7, c8, c9, c10], _ =>
     simp at h1 h2 h3 h4 h5 h6 h7 h8 h9
     obtain ⟨s1, e1, _, hs1⟩ := DataW.trod_string Tryz.underlying9 h1
     obtain ⟨k2, e2, _⟩ := DataW.trod_int Tryz.underlying3 h2
     obtain ⟨k3, e3, _⟩ := DataW.trod_int Tryz.underlying3 h3
     obtain ⟨k4, e4, _⟩ := DataW.trod_int Tryz.underlying3 h4
     obtain ⟨fa, fb, fc, e5⟩ := M8 h5
     obtain ⟨k6, e6, _⟩ := DataW.trod_int Tryz.underlying3 h6
     obtain ⟨k7, e7, _⟩ := DataW.trod_int Tryz.underlying3 h7
     obtain ⟨k8, e8, _⟩ := DataW.trod_int Tryz.underlying3 h8
     obtain ⟨s9, e9, _, hs9⟩ := DataW.trod_string Tryz.underlying9 h9
     simp at e1 e2 e3 e4 e5 e6 e7 e8 e9
     obtain ⟨rfl, rfl, rfl⟩ := e5
     subst e1 e2 e3 e4 e6 e7 e8 e9
     exact ⟨⟨s1.data.toList, k2, k3, k4, fa, fb, fc, k6, k7, k8, s9.data.toList⟩, by simp only [aG, uL], by simpa using hs1, by simpa using hs9⟩
end
end
section
open Go.ChangeShapes Go.WideShapes Go.ChangeAt Go.RowKit Go.Joins Go.Shelf

theorem ES : Tryz.prog.cellsOf 4 = 1 := by kernel_rfl
theorem Bf : Tryz.prog.cellsOf 63 = 3 := by kernel_rfl
theorem Bp : Tryz.prog.cellsOf 65 = 5 := by kernel_rfl
theorem Bg : Tryz.prog.cellsOf 67 = 10 := by kernel_rfl
theorem IC : Tryz.prog.cellsOf 42 = 1 := by kernel_rfl
theorem Bq : Tryz.prog.cellsOf 44 = 2 := by kernel_rfl
theorem Bi : Tryz.prog.cellsOf 35 = 2 := by kernel_rfl
theorem IG : Tryz.prog.cellsOf 22 = 1 := by kernel_rfl
theorem II : Tryz.prog.cellsOf 23 = 1 := by kernel_rfl
theorem IE : Tryz.prog.cellsOf 24 = 1 := by kernel_rfl
theorem ym : Tryz.prog.cellsOf 26 = 3 := by kernel_rfl

section
variable {H : Type} {enc : TypeId × Value → H} {w : World} {sp : Nat → Bool} {held : Bool} {fuel : Nat} {cs : List Value} {x : DataW H × List MemPlace}
/- a list whose elements lie cell by cell -/
theorem open_list {α : Type} (dflt : α) {T e : TypeId} {z : Nat} {cells : α → List Value} {Pr : α → Prop} (hT : Tryz.prog.underlying T = some (.slice e)) (hz : Tryz.prog.cellsOf e = z) (hz0 : 0 < z) (hcl : ∀ c, (cells c).length = z)
  (hel : ∀ (n : Nat) (cs : List Value) (y : DataW H × List MemPlace), DataW.trod enc Tryz.prog w 0 sp held n e cs = some y → ∃ c, cs = cells c ∧ Pr c)
  (h : DataW.trod enc Tryz.prog w 0 sp held fuel T cs = some x) : ∃ a n cap l, cs = [.slice a n cap] ∧ n = l.length ∧ Rd z cells w (.slice a n cap) l ∧ n ≤ cap ∧ cap ≤ maxLen ∧ ∀ c ∈ l, Pr c := by
 rcases Deep.open_slice hT h with ⟨rfl, _⟩ | ⟨a, len, cap, m, n, D, Pl, rfl, _, hl, hm, hmm, _, hc⟩
 ·exact ⟨none, 0, 0, [], rfl, rfl, JW, Nat.le_refl _, Nat.zero_le _, by simp⟩
 ·have hlm : len ≤ m := by rw [hmm]; split <;> omega
  rw [hz] at hc
  have key : ∀ i, i < len → ∃ c : α, Pr c ∧ w.cells? 0 (a.add (i * z)) z = some (cells c) := by
   intro i hi
   obtain ⟨cs', h1, h2⟩ := hc i (by omega)
   obtain ⟨c, rfl, hs⟩ := hel _ _ _ h2
   exact ⟨c, hs, h1⟩
  have : Inhabited α := ⟨dflt⟩
  obtain ⟨L, hL⟩ := Deep.choose_lt key
  refine ⟨some a, len, cap, (List.range len).map L, rfl, by simp, ⟨some a, cap, by simp, fun hn => ?_⟩, by omega, by omega, ?_⟩
  ·have h0 : 0 < len := by
    rcases Nat.eq_zero_or_pos len with q | q
    ·subst q; simp at hn
    ·exact q
   obtain ⟨b, off, spot⟩ := a
   obtain ⟨_, _, g0⟩ := World.cells?_some (hL 0 h0).2
   have c0 : w.cell? (((⟨b, off, spot⟩ : Addr).add (0 * z)).add 0) = some ((cells (L 0))[0]'(by rw [hcl]; exact hz0)) := (g0 0 hz0).trans (q4G _)
   have hs : spot = none := by simpa [Addr.add] using World.cell?_spot c0
   subst hs
   simp only [A7] at c0 hL
   refine ⟨b, off, rfl, yj c0, fun i c hi k u hu => ?_⟩
   have hi' : i < len := by
    have := (q4L.1 hi).1
    simpa using this
   simp [hi'] at hi
   subst hi
   obtain ⟨_, _, gi⟩ := World.cells?_some (hL i hi').2
   have hk := (q4L.1 hu).1
   have := gi k (by rw [← hcl (L i)]; exact hk)
   rw [A7] at this
   rw [this]
   exact hu
  ·intro c hc'
   simp at hc'
   obtain ⟨i, hi, rfl⟩ := hc'
   exact (hL i hi).1
theorem Jz (h : DataW.trod enc Tryz.prog w 0 sp held fuel 63 cs = some x) : ∃ a b c : Int, cs = [.int .i64 a, .int .i64 b, .int .i64 c] := by
 cases fuel with
 | zero => simp [DataW.trod] at h
 | succ n =>
   unfold DataW.trod at h
   rw [Tryz.underlying63] at h
   simp [Bf, lH, List.mapM_cons, Option.bind_eq_some_iff] at h
   obtain ⟨hlen, a1, b1, h1, l, ⟨a2, b2, h2, l3, ⟨a3, b3, h3, _⟩, _⟩, _⟩ := h
   match cs, hlen with
   | [u, v, z], _ =>
     simp at h1 h2 h3
     obtain ⟨k1, e1, _⟩ := DataW.trod_int Tryz.underlying3 h1
     obtain ⟨k2, e2, _⟩ := DataW.trod_int Tryz.underlying3 h2
     obtain ⟨k3, e3, _⟩ := DataW.trod_int Tryz.underlying3 h3
     simp at e1 e2 e3
     subst e1 e2 e3
     exact ⟨k1, k2, k3, rfl⟩
theorem JA (h : DataW.trod enc Tryz.prog w 0 sp held fuel 65 cs = some x) : ∃ a b c d e : Int, cs = [.int .i64 a, .int .i64 b, .int .i64 c, .int .i64 d, .int .i64 e] := by
 cases fuel with
 | zero => simp [DataW.trod] at h
 | succ n =>
   unfold DataW.trod at h
   rw [Tryz.underlying65] at h
   simp [Bp, Bf, lH, List.mapM_cons, Option.bind_eq_some_iff] at h
   obtain ⟨hlen, a1, b1, h1, l, ⟨a2, b2, h2, l3, ⟨a3, b3, h3, _⟩, _⟩, _⟩ := h
   match cs, hlen with
   | [u, v, z, y, s], _ =>
     simp at h1 h2 h3
     obtain ⟨a, b, c, e1⟩ := Jz h1
     obtain ⟨k2, e2, _⟩ := DataW.trod_int Tryz.underlying3 h2
     obtain ⟨k3, e3, _⟩ := DataW.trod_int Tryz.underlying3 h3
     simp at e1 e2 e3
     obtain ⟨rfl, rfl, rfl⟩ := e1
     subst e2 e3
     exact ⟨a, b, c, k2, k3, rfl⟩
theorem Qk (h : DataW.trod enc Tryz.prog w 0 sp held fuel 67 cs = some x) : ∃ r : Sx.Er, cs = ay r ∧ r.rules.length ≤ maxLen ∧ r.format.length ≤ maxLen := by
 cases fuel with
 | zero => simp [DataW.trod] at h
 | succ n =>
   unfold DataW.trod at h
   rw [Tryz.underlying67] at h
   simp [Bg, lH, nL, ES, Bp, List.mapM_cons, Option.bind_eq_some_iff] at h
   obtain ⟨hlen, a1, b1, h1, _, ⟨a2, b2, h2, _, ⟨a3, b3, h3, _, ⟨a4, b4, h4, _, ⟨a5, b5, h5, _, ⟨a6, b6, h6, _⟩, _⟩, _⟩, _⟩, _⟩, _⟩ := h
   match cs, hlen with
   | [c0, c1, c2, c3, c4, c5, c6, c7, c8, c9], _ =>
     simp at h1 h2 h3 h4 h5 h6
     obtain ⟨k1, e1, _⟩ := DataW.trod_int Tryz.underlying3 h1
     obtain ⟨s2, e2, _, hs2⟩ := DataW.trod_string Tryz.underlying9 h2
     obtain ⟨k3, e3, _⟩ := DataW.trod_int Tryz.underlying3 h3
     obtain ⟨s4, e4, _, hs4⟩ := DataW.trod_string Tryz.underlying9 h4
     obtain ⟨b5, e5, _⟩ := DataW.trod_bool Tryz.underlying4 h5
     obtain ⟨ua, ub, uc, ud, ue, e6⟩ := JA h6
     simp at e1 e2 e3 e4 e5 e6
     obtain ⟨rfl, rfl, rfl, rfl, rfl⟩ := e6
     subst e1 e2 e3 e4 e5
     exact ⟨⟨k1, s2.data.toList, k3, s4.data.toList, b5, ua, ub, uc, ud, ue⟩, by simp only [ay, uL], by simpa using hs2, by simpa using hs4⟩
theorem M9 (h : DataW.trod enc Tryz.prog w 0 sp held fuel 35 cs = some x) : ∃ r : Sx.Lk, cs = aZ r ∧ r.to.length ≤ maxLen ∧ r.name.length ≤ maxLen := by
 cases fuel with
 | zero => simp [DataW.trod] at h
 | succ n =>
   unfold DataW.trod at h
   rw [Tryz.underlying35] at h
   simp [Bi, nL, List.mapM_cons, Option.bind_eq_some_iff] at h
   obtain ⟨hlen, a1, b1, h1, _, ⟨a2, b2, h2, _⟩, _⟩ := h
   match cs, hlen with
   | [c0, c1], _ =>
     simp at h1 h2
     obtain ⟨s1, e1, _, hs1⟩ := DataW.trod_string Tryz.underlying9 h1
     obtain ⟨s2, e2, _, hs2⟩ := DataW.trod_string Tryz.underlying9 h2
     simp at e1 e2
     subst e1 e2
     exact ⟨⟨s1.data.toList, s2.data.toList⟩, by simp only [aZ, uL], by simpa using hs1, by simpa using hs2⟩
/- a zone: its eras can be read, and are no more than there is room for -/
structure ZvOk (w : World) (p : ZV) : Prop where
 eras : fA w (.slice p.a p.z.eras.length p.c) p.z.eras
 cap : p.z.eras.length ≤ p.c
 most : p.c ≤ maxLen
 name : p.z.name.length ≤ maxLen
 texts : ∀ x ∈ p.z.eras, x.rules.length ≤ maxLen ∧ x.format.length ≤ maxLen
theorem JB (h : DataW.trod enc Tryz.prog w 0 sp held fuel 44 cs = some x) : ∃ p : ZV, cs = bL p ∧ ZvOk w p := by
 cases fuel with
 | zero => simp [DataW.trod] at h
 | succ n =>
   unfold DataW.trod at h
   rw [Tryz.underlying44] at h
   simp [Bq, nL, IC, List.mapM_cons, Option.bind_eq_some_iff] at h
   obtain ⟨hlen, a1, b1, h1, _, ⟨a2, b2, h2, _⟩, _⟩ := h
   match cs, hlen with
   | [c0, c1], _ =>
     simp at h1 h2
     obtain ⟨s1, e1, _, hs1⟩ := DataW.trod_string Tryz.underlying9 h1
     obtain ⟨a, k, cap, l, e2, hk, hr, hc, hm, hp⟩ := open_list (⟨0, [], 0, [], false, 0, 0, 0, 0, 0⟩ : Sx.Er) (z := 10) (cells := ay) (Pr := fun x : Sx.Er => x.rules.length ≤ maxLen ∧ x.format.length ≤ maxLen) Tryz.underlying42 Bg (by decide) iE (fun n cs y q => Qk q) h2
     simp at e1 e2
     subst e1 e2
     subst hk
     exact ⟨⟨⟨s1.data.toList, l⟩, a, cap⟩, by simp only [bL, uL], hr, hc, hm, by simpa using hs1, hp⟩
end
/- what is read one way can be read the other -/
theorem Rc : ∀ ps : List ZV, ((ps.map ZV.z).zip (ps.map zvS)).map (fun p => (p.1.name, p.2)) = ps.map fun p => (p.z.name, zvS p)
 | [] => rfl
 | a :: r => by rw [List.map_cons, List.map_cons, List.map_cons, List.zip_cons_cons, List.map_cons, Rc r]
theorem JV {w : World} {v : Value} {zs : List Sx.Zn} {ps : List ZV} (h : kC w v zs ps) : fU w v zs := by
 obtain ⟨h1, h2, h3, h4⟩ := h
 subst h1
 have e := Rc ps
 refine ⟨ps.map zvS, by simp, ?_, ?_⟩
 ·rw [e]
  obtain ⟨a, cap, q1, q2⟩ := h2
  refine ⟨a, cap, by simpa using q1, fun hn => ?_⟩
  obtain ⟨b, o, q3, q4, q5⟩ := q2 (by intro q; rw [q] at hn; simp at hn)
  refine ⟨b, o, q3, q4, fun i x hx k u hu => ?_⟩
  rw [List.getElem?_map] at hx
  cases hp : ps[i]? with
  | none => rw [hp] at hx; cases hx
  | some p =>
    rw [hp] at hx
    simp at hx
    subst hx
    exact q5 i p hp k u hu
 ·intro i ev x hv hx
  rw [List.getElem?_map] at hv hx
  cases hp : ps[i]? with
  | none => rw [hp] at hx; cases hx
  | some p =>
    rw [hp] at hx hv
    simp at hx hv
    subst hx hv
    exact h3 p (List.mem_of_getElem? hp)
theorem Ox {w : World} {v : Value} {zs : List Sx.Zn} {ps : List ZV} (h : kC w v zs ps) : rq w v zs := by
 obtain ⟨h1, h2, h3, h4⟩ := h
 subst h1
 intro i x b o cap hx hv ev he
 rw [List.getElem?_map] at hx
 cases hp : ps[i]? with
 | none => rw [hp] at hx; cases hx
 | some p =>
   rw [hp] at hx
   simp at hx
   subst hx
   rw [hv] at h2
   obtain ⟨b', o', e, _, hc⟩ := aN h2 hp
   simp only [Option.some.injEq, Addr.mk.injEq] at e
   obtain ⟨rfl, rfl, _⟩ := e
   have := hc 1 (zvS p) rfl
   rw [this] at he
   simp at he
   exact ⟨p.a, p.c, he.symm, h4 p (List.mem_of_getElem? hp)⟩
structure Iu (s : Sx.Sr) (xs : List ZV) (ra za la : Option Addr) (rcap zcap lcap : Nat) (w : World) : Prop where
 rmost : rcap ≤ maxLen
 zmost : zcap ≤ maxLen
 lmost : lcap ≤ maxLen
 rules : bN w (.slice ra s.rules.length rcap) s.rules
 zv : kC w (.slice za xs.length zcap) s.zones xs
 links : fJ w (.slice la s.links.length lcap) s.links
 size : rT s
 rcap : s.rules.length ≤ rcap
 zcap : xs.length ≤ zcap
 lcap : s.links.length ≤ lcap
theorem NS {s : Sx.Sr} {xs : List ZV} {ra za la : Option Addr} {rcap zcap lcap : Nat} {m : Int} {w : World} (h : Iu s xs ra za la rcap zcap lcap w) (hm : w.cell? ⟨0, 0, none⟩ = some (.int .i64 m)) (h0 : 0 < w.heap.size) : gG s xs ra za la rcap zcap lcap m w :=
 ⟨h.rules, JV h.zv, Ox h.zv, h.zv, h.links, h.size, hm, h0⟩
section
variable {H : Type} {enc : TypeId × Value → H}
theorem xD {W : World} {base : Nat} {v : Value} {d : DataW H} {p : List MemPlace} (hv : Value.okWide Tryz.prog W .any base 26 v) (h : DataW.Trod enc Tryz.prog W 0 (fun _ => true) true 26 v d p) :
  (∃ (s : Sx.Sr) (xs : List ZV) (ra za la : Option Addr) (rcap zcap lcap : Nat), v = .agg #[.slice ra s.rules.length rcap, .slice za xs.length zcap, .slice la s.links.length lcap] ∧ Iu s xs ra za la rcap zcap lcap W) ∧ ∀ x ∈ p, x.block < W.heap.size := by
 obtain ⟨cs, rfl, hsz⟩ := okWide_struct Tryz.underlying26 hv
 obtain ⟨c0, c1, c2, rfl⟩ := array3 (hsz.trans ym)
 obtain ⟨fuel, hf⟩ := h
 refine ⟨?_, DataW.trod_lt fuel _ _ _ hf⟩
 cases fuel with
 | zero => simp [DataW.trod] at hf
 | succ n =>
   unfold DataW.trod at hf
   rw [Tryz.underlying26] at hf
   simp [Value.cells, ym, IG, II, IE, List.mapM_cons, Option.bind_eq_some_iff] at hf
   obtain ⟨a1, b1, h1, l, ⟨a2, b2, h2, _, ⟨a3, b3, h3, _⟩, _⟩, _⟩ := hf
   obtain ⟨ra, k1, rc, rs, e1, hk1, hr1, hc1, hm1, hp1⟩ := open_list (⟨[], 0, 0, 0, 0, 0, 0, 0, 0, 0, []⟩ : Sx.Rl) (z := 11) (cells := aG) (Pr := fun x : Sx.Rl => x.name.length ≤ maxLen ∧ x.letter.length ≤ maxLen) Tryz.underlying22 Bj (by decide) rH (fun n cs y q => Na q) h1
   obtain ⟨za, k2, zc, xs, e2, hk2, hr2, hc2, hm2, hp2⟩ := open_list (⟨⟨[], []⟩, none, 0⟩ : ZV) (z := 2) (cells := bL) (Pr := ZvOk W) Tryz.underlying23 Bq (by decide) (fun _ => rfl) (fun n cs y q => JB q) h2
   obtain ⟨la, k3, lc, ls, e3, hk3, hr3, hc3, hm3, hp3⟩ := open_list (⟨[], []⟩ : Sx.Lk) (z := 2) (cells := aZ) (Pr := fun x : Sx.Lk => x.to.length ≤ maxLen ∧ x.name.length ≤ maxLen) Tryz.underlying24 Bi (by decide) rE (fun n cs y q => M9 q) h3
   simp at e1 e2 e3
   subst e1 e2 e3 hk1 hk2 hk3
   refine ⟨⟨rs, xs.map ZV.z, ls⟩, xs, ra, za, la, rc, zc, lc, rfl, hm1, hm2, hm3, hr1, ⟨rfl, hr2, fun p hp => (hp2 p hp).eras, fun p hp => (hp2 p hp).cap⟩, hr3, ⟨hp1, ?_, hp3⟩, hc1, hc2, hc3⟩
   intro z hz
   obtain ⟨p, hp, rfl⟩ := List.mem_map.1 hz
   exact ⟨(hp2 p hp).name, (hp2 p hp).texts⟩
theorem Ef {W W' : World} {v : Value} {d : DataW H} {p : List MemPlace} (h : DataW.Trod enc Tryz.prog W 0 (fun _ => true) true 26 v d p) (bel : Below W.heap.size W W') (lt0 : ∀ x ∈ p, x.block < W.heap.size) : DataW.Trod enc Tryz.prog W' 0 (fun b => decide (b < W.heap.size)) true 26 v d p :=
 Below.trod laidOut (by kernel_rfl) (of_decide_eq_true (by kernel_rfl)) h bel lt0
end
end
section
open Go.RowKit

end
section
open Go.RowKit Go.Shelf
attribute [local go_sem] Oper.semAt_some
attribute [local go_sem ↓] Go.wp_at_zero Go.wp_at_succ

theorem dY {w : World} {B : Nat} {e : TypeId} {z : Nat} {v : Value} {n : Nat} {xs : List Value} (h : w.ownsRow B e z v n xs) {q o : Nat} {u : Value} (hq : q < B) : (w.setCell ⟨q, o, none⟩ u).ownsRow B e z v n xs := by
 obtain ⟨h1, h2⟩ := h
 refine ⟨h1, ?_⟩
 rcases h2 with h | ⟨g', cap', cur, hv, hg, hh, r1, r2, r3, r4⟩
 ·exact .inl h
 ·exact .inr ⟨g', cap', cur, hv, hg, (Below.heap_setCell _ _ _ _ (show ¬ g' = q by omega)).trans hh, r1, r2, r3, r4⟩
end
section
open Go.RowKit Go.Shelf

/- what is told last -/
def kF (f : Tb.Lc) (ch : List Tb.Cg) : Tb.Lc := ((ch.getLast?).map Tb.Cg.lc).getD f
/- a maker's state, and what it is behind one more thing put -/
structure Ms where
 f : Tb.Lc
 ch : List Tb.Cg
def nZ (at_ : Int) (l : Tb.Lc) (s : Ms) : Ms := if at_ = -62135596800 then ⟨l, s.ch⟩ else if l = kF s.f s.ch then s else ⟨s.f, s.ch ++ [⟨at_, l⟩]⟩
theorem Gx (at_ : Int) (l : Tb.Lc) (s : Ms) : (nZ at_ l s).ch.length ≤ s.ch.length + 1 := by
 unfold nZ
 split
 ·simp
 ·split <;> simp
theorem Jk (f : Tb.Lc) (l : List Tb.Cg) (c : Tb.Cg) : kF f (l ++ [c]) = c.lc := by simp [kF]
/- blocks of a type -/
def IsT (w : World) (b : Nat) (t : TypeId) : Prop := ∃ cs z, w.heap[b]? = some (.cells cs t z)
theorem sw {w : World} {b : Nat} {t : TypeId} (h : IsT w b t) : b < w.heap.size := by
 obtain ⟨cs, z, h⟩ := h
 exact (q4A.1 h).1
theorem ng {w w' : World} {b : Nat} {t : TypeId} (h : IsT w b t) (e : w'.heap[b]? = w.heap[b]?) : IsT w' b t := by
 obtain ⟨cs, z, h⟩ := h
 exact ⟨cs, z, e.trans h⟩
theorem xK {w : World} {b q k : Nat} {t : TypeId} (u : Value) (h : IsT w b t) : IsT (w.setCell ⟨q, k, none⟩ u) b t := by
 by_cases e : b = q
 ·subst e
  obtain ⟨cs, z, h⟩ := h
  refine ⟨cs.setIfInBounds k u, z, ?_⟩
  simp [World.setCell, Array.getElem?_modify, h]
 ·exact ng h (Below.heap_setCell _ _ _ _ e)
theorem DL (w : World) (cs : Array Value) (t : TypeId) : IsT (w.alloc (.cells cs t)) w.heap.size t := ⟨cs, _, World.alloc_heap_new w _⟩
theorem vF {w w' : World} {b : Nat} {t : TypeId} (h : IsT w b t) (hb : Below w.heap.size w w') : IsT w' b t := ng h (hb.block b (sw h))
theorem Mr {w : World} {b : Nat} {t : TypeId} (h : IsT w b t) (o : Obj) : IsT (w.alloc o) b t := ng h (Below.heap_alloc _ _ _ (sw h))
/- what a maker leaves as it was: all below B but its own block M; all that is no change of a table -/
structure MkF (B M : Nat) (w w' : World) : Prop where
 os : w'.os = w.os
 tape : w'.tape = w.tape
 output : w'.output = w.output
 size : w.heap.size ≤ w'.heap.size
 low : ∀ k, k < B → k ≠ M → w'.heap[k]? = w.heap[k]?
 typ : ∀ k t, IsT w k t → t ≠ 86 → k ≠ M → w'.heap[k]? = w.heap[k]?
theorem Qc (B M : Nat) (w : World) : MkF B M w w := ⟨rfl, rfl, rfl, Nat.le_refl _, fun _ _ _ => rfl, fun _ _ _ _ _ => rfl⟩
theorem dB {B M : Nat} {a b c : World} (h : MkF B M a b) (k : MkF B M b c) : MkF B M a c :=
 ⟨k.os.trans h.os, k.tape.trans h.tape, k.output.trans h.output, Nat.le_trans h.size k.size, fun i h1 h2 => (k.low i h1 h2).trans (h.low i h1 h2), fun i t h1 h2 h3 => (k.typ i t (ng h1 (h.typ i t h1 h2 h3)) h2 h3).trans (h.typ i t h1 h2 h3)⟩
theorem iG {B M : Nat} {w w' : World} (h : Below w.heap.size w w') (hB : B ≤ w.heap.size) : MkF B M w w' :=
 ⟨h.os, h.tape, h.output, h.size, fun k h1 _ => h.block k (q4N h1 hB), fun k t h1 _ _ => h.block k (sw h1)⟩
theorem xM {B M k : Nat} {w : World} (u : Value) : MkF B M w (w.setCell ⟨M, k, none⟩ u) :=
 ⟨rfl, rfl, rfl, by simp, fun i _ h => Below.heap_setCell _ _ _ _ h, fun i t _ _ h => Below.heap_setCell _ _ _ _ h⟩
theorem MQ {B M : Nat} {w w' : World} {v : Value} {xs : List Value} {n : Nat} (hr : w.ownsRow B 86 4 v n xs) (hB : B ≤ w.heap.size) (h : w.grownBy w' v.ownBlock) : MkF B M w w' := by
 have key : ∀ k, some k = v.ownBlock → B ≤ k ∧ IsT w k 86 := by
  intro k e
  rcases hr.2 with ⟨rfl, _⟩ | ⟨g, cap, cur, rfl, hb, hg, _⟩
  ·simp [Value.ownBlock] at e
  ·simp [Value.ownBlock] at e
   subst e
   exact ⟨hb, _, _, hg⟩
 refine ⟨h.os, h.tape, h.output, h.size, fun k h1 _ => h.block k (q4N h1 hB) fun e => ?_, fun k t h1 h2 _ => h.block k (sw h1) fun e => ?_⟩
 ·have := (key k e).1; omega
 ·obtain ⟨cs, z, q⟩ := (key k e).2
  obtain ⟨cs', z', q'⟩ := h1
  rw [q] at q'
  simp at q'
  exact h2 q'.2.1.symm
/- a maker in memory -/
structure Mk (B M : Nat) (s : Ms) (cv rv : Value) (w : World) : Prop where
 box : ag w M [.int .i64 s.f.shift, .int .i64 s.f.save, .string ⟨s.f.name.toArray⟩, cv, rv]
 ty : IsT w M 127
 own : ma w B cv s.ch
 mB : M < B
 bS : B ≤ w.heap.size
theorem gJ {B M : Nat} {s : Ms} {cv rv : Value} {w w' : World} (h : Mk B M s cv rv w) (hb : Below w.heap.size w w') : Mk B M s cv rv w' :=
 ⟨ah h.box hb, vF h.ty hb, aJ h.own hb, h.mB, Nat.le_trans h.bS hb.size⟩
/- what else is carried over a maker's turn -/
theorem Tk {B M X : Nat} {w w' : World} {vs : List Value} {t : TypeId} (h : ag w X vs) (ht : IsT w X t) (hn : t ≠ 86) (hX : X ≠ M) (hf : MkF B M w w') : ag w' X vs :=
 jw h (q4N h.1 hf.size) (hf.typ X t ht hn hX)
theorem RD {B M X : Nat} {w w' : World} {t : TypeId} (ht : IsT w X t) (hn : t ≠ 86) (hX : X ≠ M) (hf : MkF B M w w') : IsT w' X t := ng ht (hf.typ X t ht hn hX)
theorem Qr {B M B' : Nat} {e : TypeId} {z : Nat} {w w' : World} {v : Value} {n : Nat} {xs : List Value} (h : w.ownsRow B' e z v n xs) (hn : e ≠ 86) (hM : IsT w M 127) (he : e ≠ 127) (hf : MkF B M w w') : w'.ownsRow B' e z v n xs := by
 refine ⟨h.1, ?_⟩
 rcases h.2 with q | ⟨g, cap, cur, rfl, hb, hg, rest⟩
 ·exact .inl q
 ·refine .inr ⟨g, cap, cur, rfl, hb, ?_, rest⟩
  refine (hf.typ g e ⟨_, _, hg⟩ hn ?_).trans hg
  rintro rfl
  obtain ⟨cs, z', q⟩ := hM
  rw [hg] at q
  simp at q
  exact he q.2.1
theorem ML {B M N : Nat} {a w w' : World} (h : Below N a w) (hN : N ≤ M) (hB : N ≤ B) (hf : MkF B M w w') : Below N a w' :=
 ⟨hf.os.trans h.os, hf.tape.trans h.tape, hf.output.trans h.output, Nat.le_trans h.size hf.size, fun k hk => (hf.low k (by omega) (by omega)).trans (h.block k hk)⟩
end
section
open Go.RowKit Go.Shelf
attribute [local go_sem] Oper.semAt_some
attribute [local go_sem ↓] Go.wp_at_zero Go.wp_at_succ

theorem keep4 {w : World} {M g n q : Nat} {v0 v1 v2 v3 : Value} (h1 : M ≠ q) (h2 : g ≠ q) (h : w.cell? ⟨M, 3, none⟩ = some v0 ∧ w.cell? ⟨g, n * 4 + 1, none⟩ = some v1 ∧ w.cell? ⟨g, n * 4 + 2, none⟩ = some v2 ∧ w.cell? ⟨g, n * 4 + 3, none⟩ = some v3) (a : Nat) (x : Value) (b : Nat) (y : Value) (c : Nat) (z : Value) :
  let w' := ((w.setCell ⟨q, a, none⟩ x).setCell ⟨q, b, none⟩ y).setCell ⟨q, c, none⟩ z
  w'.cell? ⟨M, 3, none⟩ = some v0 ∧ w'.cell? ⟨g, n * 4 + 1, none⟩ = some v1 ∧ w'.cell? ⟨g, n * 4 + 2, none⟩ = some v2 ∧ w'.cell? ⟨g, n * 4 + 3, none⟩ = some v3 := by
 have e : ∀ b' k, b' ≠ q → (((w.setCell ⟨q, a, none⟩ x).setCell ⟨q, b, none⟩ y).setCell ⟨q, c, none⟩ z).cell? ⟨b', k, none⟩ = w.cell? ⟨b', k, none⟩ := fun b' k hb => by
  rw [World.cell?_of_block (Below.heap_setCell _ _ _ _ hb), World.cell?_of_block (Below.heap_setCell _ _ _ _ hb), World.cell?_of_block (Below.heap_setCell _ _ _ _ hb)]
 exact ⟨(e _ _ h1).trans h.1, (e _ _ h2).trans h.2.1, (e _ _ h2).trans h.2.2.1, (e _ _ h2).trans h.2.2.2⟩
theorem keepX {w w' : World} {X : Nat} {v1 v2 v3 : Value} (hb : Below w.heap.size w w') (hX : X < w.heap.size) (h : w.cell? ⟨X, 0, none⟩ = some v1 ∧ w.cell? ⟨X, 1, none⟩ = some v2 ∧ w.cell? ⟨X, 2, none⟩ = some v3) :
  w'.cell? ⟨X, 0, none⟩ = some v1 ∧ w'.cell? ⟨X, 1, none⟩ = some v2 ∧ w'.cell? ⟨X, 2, none⟩ = some v3 :=
 ⟨(hb.cell (p := ⟨X, 0, none⟩) hX).trans h.1, (hb.cell (p := ⟨X, 1, none⟩) hX).trans h.2.1, (hb.cell (p := ⟨X, 2, none⟩) hX).trans h.2.2⟩
theorem setX {w : World} {M X : Nat} {v1 v2 v3 : Value} (hMX : ¬ M = X) (h : w.cell? ⟨X, 0, none⟩ = some v1 ∧ w.cell? ⟨X, 1, none⟩ = some v2 ∧ w.cell? ⟨X, 2, none⟩ = some v3) (k : Nat) (u : Value) :
  (w.setCell ⟨M, k, none⟩ u).cell? ⟨X, 0, none⟩ = some v1 ∧ (w.setCell ⟨M, k, none⟩ u).cell? ⟨X, 1, none⟩ = some v2 ∧ (w.setCell ⟨M, k, none⟩ u).cell? ⟨X, 2, none⟩ = some v3 := by
 have e : ∀ j, (w.setCell ⟨M, k, none⟩ u).cell? ⟨X, j, none⟩ = w.cell? ⟨X, j, none⟩ := fun j => World.cell?_of_block (Below.heap_setCell _ _ _ _ fun q => hMX q.symm)
 exact ⟨(e 0).trans h.1, (e 1).trans h.2.1, (e 2).trans h.2.2⟩
theorem Dk (c : Tb.Cg) : ∀ u ∈ bB c, u.oneCell' = true := by
 intro u hu; simp only [bB, List.mem_cons, List.not_mem_nil, or_false] at hu; rcases hu with rfl | rfl | rfl | rfl <;> rfl
/- one change more -/
theorem Qd {B M X : Nat} {f : Tb.Lc} {ch : List Tb.Cg} {cv rv v' : Value} {w w9 : World} {o : Obj} {c : Tb.Cg} {t : TypeId} (h : Mk B M ⟨f, ch⟩ cv rv w) (hX : IsT w X t) (ht : t ≠ 86) (hMX : ¬ M = X)
  (hown : w9.ownsRow B 86 4 v' (ch.length + 1) (ch.flatMap bB ++ bB c)) (hg : (w.alloc o).grownBy w9 cv.ownBlock) :
  Mk B M ⟨f, ch ++ [c]⟩ v' rv (w9.setCell ⟨M, 3, none⟩ v') ∧ MkF B M w (w9.setCell ⟨M, 3, none⟩ v') ∧
  (∀ {v1 v2 v3 : Value}, w.cell? ⟨X, 0, none⟩ = some v1 ∧ w.cell? ⟨X, 1, none⟩ = some v2 ∧ w.cell? ⟨X, 2, none⟩ = some v3 → w9.cell? ⟨X, 0, none⟩ = some v1 ∧ w9.cell? ⟨X, 1, none⟩ = some v2 ∧ w9.cell? ⟨X, 2, none⟩ = some v3) ∧
  (w9.cell? ⟨M, 3, none⟩ = some cv ∧ w9.frozen? ⟨M, 3, none⟩ = false ∧ M < w9.heap.size) := by
 have ha : Below w.heap.size w (w.alloc o) := (q4B _ w).alloc (Nat.le_refl _) o
 have h8 := gJ h ha
 have hM := h8.box.1
 have F89 : MkF B M (w.alloc o) w9 := MQ h8.own h8.bS hg
 have key : ∀ k, some k = cv.ownBlock → B ≤ k ∧ IsT (w.alloc o) k 86 := by
  intro k e
  rcases h8.own.2 with ⟨rfl, _⟩ | ⟨g, cap, cur, rfl, hb, hg, _⟩
  ·simp [Value.ownBlock] at e
  ·simp [Value.ownBlock] at e
   subst e
   exact ⟨hb, _, _, hg⟩
 have eM : w9.heap[M]? = (w.alloc o).heap[M]? := hg.block M hM fun e => by have := (key M e).1; have := h.mB; omega
 have hX8 := Mr hX o
 have eX : w9.heap[X]? = (w.alloc o).heap[X]? := hg.block X (sw hX8) fun e => by
  obtain ⟨cs, z, q⟩ := (key X e).2
  obtain ⟨cs', z', q'⟩ := hX8
  rw [q] at q'
  simp at q'
  exact ht q'.2.1.symm
 have b9 : ag w9 M _ := jw h8.box (q4N hM hg.size) eM
 have b10 := aS b9 3 v' (by simp)
 simp only [List.set_cons_zero, List.set_cons_succ] at b10
 have t9 := ng h8.ty eM
 refine ⟨⟨b10, xK _ t9, ?_, h.mB, by have := h8.bS; have := hg.size; simp; omega⟩, dB (dB (iG ha h.bS) F89) (xM _), ?_, ⟨(aa b9 3 rfl).1, (aa b9 3 rfl).2, b9.1⟩⟩
 ·have q := ownsRow_setCell_below hown (a := ⟨M, 3, none⟩) h.mB v'
  unfold ma
  simpa using q
 ·rintro v1 v2 v3 ⟨a1, a2, a3⟩
  have fX : ∀ k, w9.cell? ⟨X, k, none⟩ = w.cell? ⟨X, k, none⟩ := fun k => (World.cell?_of_block eX).trans (ha.cell (p := ⟨X, k, none⟩) (sw hX))
  exact ⟨(fX 0).trans a1, (fX 1).trans a2, (fX 2).trans a3⟩
theorem Qe {B M : Nat} {s : Ms} {cv rv : Value} {w : World} (h : Mk B M s cv rv w) (n : Tb.Lc) :
  Mk B M ⟨n, s.ch⟩ cv rv (((w.setCell ⟨M, 0, none⟩ (.int .i64 n.shift)).setCell ⟨M, 1, none⟩ (.int .i64 n.save)).setCell ⟨M, 2, none⟩ (.string ⟨n.name.toArray⟩)) := by
 have b1 := aS (aS (aS h.box 0 (.int .i64 n.shift) (by simp)) 1 (.int .i64 n.save) (by simp)) 2 (.string ⟨n.name.toArray⟩) (by simp)
 simp only [List.set_cons_zero, List.set_cons_succ] at b1
 have e : ∀ (w : World) (k : Nat) (u : Value), w.ownsRow B 86 4 cv s.ch.length (s.ch.flatMap bB) → (w.setCell ⟨M, k, none⟩ u).ownsRow B 86 4 cv s.ch.length (s.ch.flatMap bB) := fun w k u q => ownsRow_setCell_below q (a := ⟨M, k, none⟩) h.mB u
 exact ⟨b1, xK _ (xK _ (xK _ h.ty)), e _ _ _ (e _ _ _ (e _ _ _ h.own)), h.mB, by simpa using h.bS⟩
theorem Jr {B M : Nat} {s : Ms} {cv rv : Value} {w : World} (h : Mk B M s cv rv w) (hl : s.ch.length ≤ 1000000) :
  Calls Tryz.prog 203 #[.pointer (some ⟨M, 0, none⟩)] w fun e w' => e = .returned (lcV (kF s.f s.ch)) ∧ Below w.heap.size w w' := by
 obtain ⟨f, ch⟩ := s
 obtain ⟨a, cap, rfl⟩ := aF h.own
 obtain ⟨V, gV, L0, hb, sz⟩ := aR w #[.int .i64 0, .int .i64 0, .string ⟨#[]⟩] 31
 have LV : ag V w.heap.size [.int .i64 0, .int .i64 0, .string ⟨#[]⟩] := L0
 have hV := gJ h hb
 have HMk := hid hV
 have HB := hid hb
 have hM : M < w.heap.size := h.box.1
 have hn1 : M ≠ w.heap.size := by omega
 obtain ⟨⟨m0, _⟩, ⟨m1, _⟩, ⟨m2, _⟩, ⟨m3, _⟩, sm⟩ := cp4 hV.box
 obtain ⟨⟨l0, k0⟩, ⟨l1, k1⟩, ⟨l2, k2⟩, sl⟩ := cp3 LV
 have h1 := hid (Nat.le_refl w.heap.size)
 rcases List.eq_nil_or_concat ch with rfl | ⟨l, c, rfl⟩
 ·have e0 : kF f [] = f := rfl
  rw [e0]
  clear h hV hb sz L0 LV
  go_enter Tryz.func203, Tryz.ntmps203
  go_wp2
  have h2 := ax (ax (ax HB.out h1.out 0 (.int .i64 f.shift)) h1.out 1 (.int .i64 f.save)) h1.out 2 (.string ⟨f.name.toArray⟩)
  refine bodyPost_ret (v := lcV f) (by simp [results, Tryz.results203, go_sem, *]) rfl ⟨rfl, h2⟩
 ·rw [List.concat_eq_append] at *
  rw [Jk]
  have hR := pQ hV.own
  have hx : (l ++ [c])[l.length]? = some c := by simp
  obtain ⟨g, o, e, hg, hc⟩ := aN hR hx
  have ho : o = 0 := by
   rcases hV.own.2 with ⟨q, _⟩ | ⟨g', cap', cur, q, _⟩
   ·rw [e] at q; simp at q
   ·rw [e] at q; simp at q; exact q.1.2
  subst ho
  subst e
  have hn2 : g ≠ w.heap.size := by
   intro q
   have hr := h.own
   obtain ⟨_, _, _, h4, _⟩ := j3 (g := 0) hr
   simp at h4; omega
  have g1 : V.cell? ⟨g, l.length * 4 + 1, none⟩ = some (.int .i64 c.lc.shift) := by have := hc 1 _ rfl; simpa using this
  have g2 : V.cell? ⟨g, l.length * 4 + 2, none⟩ = some (.int .i64 c.lc.save) := by have := hc 2 _ rfl; simpa using this
  have g3 : V.cell? ⟨g, l.length * 4 + 3, none⟩ = some (af c.lc.name) := by have := hc 3 _ rfl; simpa using this
  have hlen : (l ++ [c]).length = l.length + 1 := by simp
  simp only [hlen] at m3 hl
  have hl2 : l.length ≤ 1000000 := by omega
  have hw : IntKind.i64.wrap (l.length : Int) = (l.length : Int) := IntWalk.i64_in _ (by omega)
  have hlt : (l.length : Int) < (l.length : Int) + 1 := by omega
  have HS1 : Hid (V.cell? ⟨M, 3, none⟩ = some (.slice (some ⟨g, 0, none⟩) (l.length + 1) cap) ∧ V.cell? ⟨g, l.length * 4 + 1, none⟩ = some (.int .i64 c.lc.shift) ∧ V.cell? ⟨g, l.length * 4 + 2, none⟩ = some (.int .i64 c.lc.save) ∧ V.cell? ⟨g, l.length * 4 + 3, none⟩ = some (af c.lc.name)) := ⟨m3, g1, g2, g3⟩
  clear h hV hb sz L0 LV hR hx hc hlen hl
  go_enter Tryz.func203, Tryz.ntmps203
  go_upto_region 3 with fail
  refine wp_region_held_drew (S := fun w' => w'.cell? ⟨M, 3, none⟩ = some (.slice (some ⟨g, 0, none⟩) (l.length + 1) cap) ∧ w'.cell? ⟨g, l.length * 4 + 1, none⟩ = some (.int .i64 c.lc.shift) ∧ w'.cell? ⟨g, l.length * 4 + 2, none⟩ = some (.int .i64 c.lc.save) ∧ w'.cell? ⟨g, l.length * 4 + 3, none⟩ = some (af c.lc.name)) (by kernel_rfl) HS1.out (fun hHeld => ?_)
  refine tkA 0 rfl ?_
  refine tkA 1 rfl ?_
  refine tkA 2 rfl ?_
  refine tkA 3 rfl ?_
  refine tkA 4 rfl ?_
  refine tkA 5 rfl ?_
  refine tkA 6 rfl ?_
  refine tkA 7 rfl ?_
  refine tkA 8 rfl ?_
  refine tkA 9 rfl ?_
  refine tkA 10 rfl ?_
  refine tkA 11 rfl ?_
  refine tkA 12 rfl ?_
  refine tkA 13 rfl ?_
  refine tkA 14 rfl ?_
  refine rdH 15 rfl fun K hK => ?_
  go_simp
  have S9 := keep4 (q := w.heap.size) hn1 hn2 HS1.out 0 (.int .i64 c.lc.shift) 1 (.int .i64 c.lc.save) 2 (.string ⟨c.lc.name.toArray⟩)
  refine hK.out _ _ ?_ (fun hHeld => ?_)
  ·exact S9
  clear hK K
  try simp only [Act.put, j]
  refine wpAnyH_done (by kernel_rfl) ?_ _
  go_wp2_with fail
  have h2 := ax (ax (ax (HB.out.drew) h1.out 0 (.int .i64 c.lc.shift)) h1.out 1 (.int .i64 c.lc.save)) h1.out 2 (.string ⟨c.lc.name.toArray⟩)
  refine bodyPost_ret (v := lcV c.lc) (by simp [results, Tryz.results203, go_sem, *]) rfl ⟨rfl, h2⟩
theorem MS {B M : Nat} {s : Ms} {cv rv : Value} {w : World} (h : Mk B M s cv rv w) (hl : s.ch.length ≤ 900000) (at_ : Int) (n : Tb.Lc) :
  Calls Tryz.prog 177 #[.pointer (some ⟨M, 0, none⟩), .int .i64 at_, lcV n] w fun e w' => ∃ cv', e = .returned (.tuple #[]) ∧ Mk B M (nZ at_ n s) cv' rv w' ∧ MkF B M w w' := by
 obtain ⟨f, ch⟩ := s
 obtain ⟨V, gV, L0, hb, sz⟩ := aR w #[.int .i64 n.shift, .int .i64 n.save, .string ⟨n.name.toArray⟩] 31
 obtain ⟨X, hX⟩ : ∃ X, w.heap.size = X := ⟨_, rfl⟩
 have hV := gJ h hb
 have LV : ag V X [.int .i64 n.shift, .int .i64 n.save, .string ⟨n.name.toArray⟩] := hX ▸ L0
 have HMk := hid hV
 have HF : Hid (MkF B M w V) := iG hb h.bS
 have hM : M < w.heap.size := h.box.1
 obtain ⟨⟨m0, k0⟩, ⟨m1, k1⟩, ⟨m2, k2⟩, ⟨m3, k3⟩, sm⟩ := cp4 hV.box
 obtain ⟨⟨l0, _⟩, ⟨l1, _⟩, ⟨l2, _⟩, sl⟩ := cp3 LV
 have HLV := hid LV
 have hMX : ¬ M = X := by omega
 by_cases h0 : at_ = -62135596800
 case pos =>
  have e0 : nZ at_ n ⟨f, ch⟩ = ⟨n, ch⟩ := by unfold nZ; rw [if_pos h0]
  rw [e0]
  subst h0
  have FIN := hid (Qe hV n)
  have FF : Hid (MkF B M w (((V.setCell ⟨M, 0, none⟩ (.int .i64 n.shift)).setCell ⟨M, 1, none⟩ (.int .i64 n.save)).setCell ⟨M, 2, none⟩ (.string ⟨n.name.toArray⟩))) := dB (dB (dB HF.out (xM _)) (xM _)) (xM _)
  clear h hV hb sz L0 LV e0
  go_enter Tryz.func177, Tryz.ntmps177
  go_wp2
  go_end0
  exact ⟨rfl, ⟨cv, FIN.out⟩, FF.out⟩
 have hLT : Hid (IsT V X 31) := by show IsT _ _ _; rw [← gV, ← hX]; exact DL w _ _
 have hl2 : ch.length ≤ 1000000 := by simp only at hl; omega
 have HL := hid (fun W (hW : Below V.heap.size V W) => Jr (gJ hV hW) hl2)
 have hl3 : Hid (ch.length ≤ 900000) := hl
 obtain ⟨q, hq⟩ : ∃ q, kF f ch = q := ⟨_, rfl⟩
 simp only [hq] at HL
 have e1 : Hid (nZ at_ n ⟨f, ch⟩ = if n = q then ⟨f, ch⟩ else ⟨f, ch ++ [⟨at_, n⟩]⟩) := by show _ = _; unfold nZ; rw [if_neg h0, hq]
 have hn0 : (at_ == -62135596800) = false := by simp [h0]
 have SS : Hid (V.cell? ⟨X, 0, none⟩ = some (.int .i64 n.shift) ∧ V.cell? ⟨X, 1, none⟩ = some (.int .i64 n.save) ∧ V.cell? ⟨X, 2, none⟩ = some (.string ⟨n.name.toArray⟩)) := ⟨l0, l1, l2⟩
 have KS : Hid (∀ w7, Below V.heap.size V w7 → w7.cell? ⟨X, 0, none⟩ = some (.int .i64 n.shift) ∧ w7.cell? ⟨X, 1, none⟩ = some (.int .i64 n.save) ∧ w7.cell? ⟨X, 2, none⟩ = some (.string ⟨n.name.toArray⟩)) := fun w7 hb => ⟨(hb.cell (p := ⟨X, 0, none⟩) sl).trans l0, (hb.cell (p := ⟨X, 1, none⟩) sl).trans l1, (hb.cell (p := ⟨X, 2, none⟩) sl).trans l2⟩
 obtain ⟨oa, ocap, hcv⟩ := aF h.own
 subst hcv
 clear h hV hb sz L0 LV hl hl2 hq
 go_enter Tryz.func177, Tryz.ntmps177
 go_upto_region 3 with fail
 go_cut [16] from 8 to 16 (fun s16 wc => s16 = .bool (!decide (n = q)) ∧ Hid (Below V.heap.size V wc))
 case first =>
  have fork : n = q ∨ ¬ n.shift = q.shift ∨ (n.shift = q.shift ∧ ¬ n.save = q.save) ∨ (n.shift = q.shift ∧ n.save = q.save ∧ ¬ n.name = q.name) := by
   obtain ⟨n1, n2, n3⟩ := n
   obtain ⟨q1, q2, q3⟩ := q
   by_cases c1 : n1 = q1 <;> by_cases c2 : n2 = q2 <;> by_cases c3 : n3 = q3 <;> simp_all
  have HN : Hid (∀ b, (b = true ↔ n = q) → decide (n = q) = b) := fun b hb => by rw [← Bool.coe_iff_coe]; simp [hb]
  refine wp_region_held_drew (S := fun w' => w'.cell? ⟨X, 0, none⟩ = some (.int .i64 n.shift) ∧ w'.cell? ⟨X, 1, none⟩ = some (.int .i64 n.save) ∧ w'.cell? ⟨X, 2, none⟩ = some (.string ⟨n.name.toArray⟩)) (by kernel_rfl) SS.out (fun hHeld => ?_)
  refine tkA 0 rfl ?_
  refine tkA 1 rfl ?_
  refine rdH 2 rfl fun K hK => ?_
  go_simp
  refine (HL.out _ (show Below V.heap.size V V.drew from ⟨rfl, rfl, rfl, Nat.le_refl _, fun _ _ => rfl⟩)).mono ?_
  rintro e w7 ⟨rfl, hb7⟩
  have hb := bq hb7
  have S7 := KS.out w7 hb
  refine hK.out _ _ ?_ (fun hHeld => ?_)
  ·exact S7
  clear hK K
  try simp only [Act.put, j]
  refine wpAnyH_take (i := 3) (v := .bool (!decide (n = q))) rfl (by kernel_rfl) (by kernel_rfl) (by kernel_rfl) (fun _ _ _ h => h) (Or.inl ⟨by rfl, ?hyq⟩) (by assumption) ?_
  case hyq =>
   clear HL HMk HF hLT SS KS HN hHeld e1 m0 k0 m1 k1 m2 k2 m3 k3 sm l0 l1 l2 sl hMX hX hM h0 hn0 hl3 hb7 hb S7
   intro w hSw
   clear hSw
   rcases fork with e | e | ⟨e1, e⟩ | ⟨e1, e2, e⟩
   ·subst e
    go_simp
   ·have hd : decide (n = q) = false := by simp; rintro rfl; exact e rfl
    rw [hd]
    go_simp
   ·have hd : decide (n = q) = false := by simp; rintro rfl; exact e rfl
    rw [hd]
    go_simp
   ·have hd : decide (n = q) = false := by simp; rintro rfl; exact e rfl
    rw [hd]
    go_simp
  try simp only [Act.put, j]
  refine wpAnyH_done (by kernel_rfl) ?_ _
  go_wp2_with fail
  go_meet
  exact ⟨rfl, hb⟩
 case rest =>
 obtain ⟨rfl, hb⟩ := hcut
 have MW := hid (gJ HMk.out hb.out)
 have FW : Hid (MkF B M w wc) := dB HF.out (iG hb.out HMk.out.bS)
 have LTW := hid (vF hLT.out hb.out)
 clear m0 k0 m1 k1 m2 k2 m3 k3 HMk HF hLT
 obtain ⟨⟨m0, k0⟩, ⟨m1, k1⟩, ⟨m2, k2⟩, ⟨m3, k3⟩, -⟩ := cp4 MW.out.box
 dsimp only at m0 m1 m2 m3
 have smw := MW.out.box.1
 obtain ⟨x0, x1, x2⟩ := KS.out wc hb.out
 have sx := sw LTW.out
 clear l0 l1 l2 sl SS KS
 by_cases hnq : n = q
 case pos =>
  have e2 : decide (n = q) = true := by simp [hnq]
  have e3 : nZ at_ n ⟨f, ch⟩ = ⟨f, ch⟩ := by rw [e1.out, if_pos hnq]
  have E3 := hid e3
  rw [e2]
  clear e2 e3 hnq e1
  go_wp2_with fail
  go_end0
  exact ⟨rfl, ⟨_, by rw [E3.out]; exact MW.out⟩, FW.out⟩
 have e2 : decide (n = q) = false := by simp [hnq]
 have e3 : nZ at_ n ⟨f, ch⟩ = ⟨f, ch ++ [⟨at_, n⟩]⟩ := by rw [e1.out, if_neg hnq]
 have E3 := hid e3
 rw [e2]
 clear e1 e2 e3 hnq h0 HL
 have OW := MW.out.own
 have SS : Hid (wc.cell? ⟨X, 0, none⟩ = some (.int .i64 n.shift) ∧ wc.cell? ⟨X, 1, none⟩ = some (.int .i64 n.save) ∧ wc.cell? ⟨X, 2, none⟩ = some (.string ⟨n.name.toArray⟩)) := ⟨x0, x1, x2⟩
 obtain ⟨i0, hi, hz0, hz1, hz2⟩ := info_parts Tryz.PD
 have B8 : Below wc.heap.size wc ((wc.alloc (.cells #[.int .i64 at_, .int .i64 n.shift, .int .i64 n.save, .string ⟨n.name.toArray⟩] 86)).drew) := ((q4B wc.heap.size wc).alloc (Nat.le_refl _) _).drew
 have m8 := (B8.cell (p := ⟨M, 3, none⟩) smw).trans m3
 have S8 := keepX B8 sx SS.out
 go_upto_region 4 with fail
 refine wp_region_held_drew (S := fun w' => w'.cell? ⟨X, 0, none⟩ = some (.int .i64 n.shift) ∧ w'.cell? ⟨X, 1, none⟩ = some (.int .i64 n.save) ∧ w'.cell? ⟨X, 2, none⟩ = some (.string ⟨n.name.toArray⟩)) (by kernel_rfl) SS.out (fun hHeld => ?_)
 refine tkA 0 rfl ?_
 refine tkA 1 rfl ?_
 refine tkA 2 rfl ?_
 refine tkA 3 rfl ?_
 refine tkA 4 rfl ?_
 refine tkA 6 rfl ?_
 refine tkA 7 rfl ?_
 refine tkA 8 rfl ?_
 refine wpAnyH_ready (rs := [5, 9]) (by kernel_rfl) (by simp) ?_
 refine AllReadyH.cons rfl (fun K hK => ?_) ?_
 ·go_simp
  refine hK.out _ _ SS.out (fun hHeld2 => ?_)
  clear hK K
  try simp only [Act.put, j]
  refine rdH 9 rfl fun K hK => ?_
  go_simp
  refine hK.out _ _ S8 (fun hHeld2 => ?_)
  clear hK K
  try simp only [Act.put, j]
  refine rdH 10 rfl fun K hK => ?_
  refine bC rfl _ _ 74 rfl B 86 i0 (.agg #[.int .i64 0, .int .i64 0, .int .i64 0, .string ⟨#[]⟩]) 4 40 Tryz.underlying74 hi hz0 hz1 hz2 rfl (by decide) (.slice oa ch.length ocap) _ _ rfl (OW.alloc _) ⟨wc.heap.size, 0, none⟩ 1 1 (bB ⟨at_, n⟩) rfl rfl (dO wc (bB ⟨at_, n⟩)) (Dk _) (by have := hl3.out; unfold maxLen; dsimp only; omega) (by have := hl3.out; dsimp only; omega) (by have := MW.out.bS; simp; omega) ?_
  intro v' w9 hown9 hgrow9
  obtain ⟨q1, q2, q3, q4⟩ := Qd MW.out LTW.out (by decide) (hMX) hown9 ⟨hgrow9.os, hgrow9.tape, hgrow9.output, hgrow9.size, hgrow9.block⟩
  obtain ⟨g9, cap9, rfl⟩ := bn hown9
  have S9 := q3 SS.out
  have Q1 := hid q1
  have Q2 := hid q2
  clear q1 q2 q3
  refine hK.out _ _ S9 (fun hHeld3 => ?_)
  clear hK K
  try simp only [Act.put, j]
  refine tkA 11 rfl ?_
  refine tkA 12 rfl ?_
  refine tkA 13 rfl ?_
  refine rdH 14 rfl fun K hK => ?_
  have k9 := q4.1
  have l9 := q4.2
  go_simp
  have S10 := setX hMX S9 3 (.slice (some ⟨g9, 0, none⟩) (ch.length + 1) cap9)
  refine hK.out _ _ S10 (fun hHeld4 => ?_)
  clear hK K
  try simp only [Act.put, j]
  refine wpAnyH_done (by kernel_rfl) ?_ _
  go_wp2_with fail
  go_end0
  exact ⟨rfl, ⟨_, by rw [E3.out]; exact Q1.out⟩, dB FW.out Q2.out⟩
 refine AllReadyH.cons rfl (fun K hK => ?_) AllReadyH.nil
 go_simp
 refine hK.out _ _ S8 (fun hHeld2 => ?_)
 clear hK K
 try simp only [Act.put, j]
 refine rdH 5 rfl fun K hK => ?_
 go_simp
 refine hK.out _ _ S8 (fun hHeld2 => ?_)
 clear hK K
 try simp only [Act.put, j]
 refine rdH 10 rfl fun K hK => ?_
 refine bC rfl _ _ 74 rfl B 86 i0 (.agg #[.int .i64 0, .int .i64 0, .int .i64 0, .string ⟨#[]⟩]) 4 40 Tryz.underlying74 hi hz0 hz1 hz2 rfl (by decide) (.slice oa ch.length ocap) _ _ rfl (OW.alloc _) ⟨wc.heap.size, 0, none⟩ 1 1 (bB ⟨at_, n⟩) rfl rfl (dO wc (bB ⟨at_, n⟩)) (Dk _) (by have := hl3.out; unfold maxLen; dsimp only; omega) (by have := hl3.out; dsimp only; omega) (by have := MW.out.bS; simp; omega) ?_
 intro v' w9 hown9 hgrow9
 obtain ⟨q1, q2, q3, q4⟩ := Qd MW.out LTW.out (by decide) (hMX) hown9 ⟨hgrow9.os, hgrow9.tape, hgrow9.output, hgrow9.size, hgrow9.block⟩
 obtain ⟨g9, cap9, rfl⟩ := bn hown9
 have S9 := q3 SS.out
 have Q1 := hid q1
 have Q2 := hid q2
 clear q1 q2 q3
 refine hK.out _ _ S9 (fun hHeld3 => ?_)
 clear hK K
 try simp only [Act.put, j]
 refine tkA 11 rfl ?_
 refine tkA 12 rfl ?_
 refine tkA 13 rfl ?_
 refine rdH 14 rfl fun K hK => ?_
 have k9 := q4.1
 have l9 := q4.2
 go_simp
 have S10 := setX hMX S9 3 (.slice (some ⟨g9, 0, none⟩) (ch.length + 1) cap9)
 refine hK.out _ _ S10 (fun hHeld4 => ?_)
 clear hK K
 try simp only [Act.put, j]
 refine wpAnyH_done (by kernel_rfl) ?_ _
 go_wp2_with fail
 go_end0
 exact ⟨rfl, ⟨_, by rw [E3.out]; exact Q1.out⟩, dB FW.out Q2.out⟩
end
section
open Go.RowKit Go.Shelf
attribute [local go_sem] Oper.semAt_some
attribute [local go_sem ↓] Go.wp_at_zero Go.wp_at_succ

/- times at which something else is saved by an era's clocks -/
def kD (rs : List Sx.Rl) (x : Sx.Er) : List Sx.Tm := ⟨-62135596800, x.save, []⟩ :: (if x.rules = [] then [] else Sx.times rs x.rules x.shift)
theorem yF (rs : List Sx.Rl) (x : Sx.Er) : (kD rs x).length ≤ 1001 := by
 unfold kD
 have := Sx.oJ rs x.rules x.shift
 split <;> simp <;> omega
theorem QW (l : List Sx.Tm) : (l.flatMap dF).length = l.length * 3 := by
 induction l with
 | nil => rfl
 | cons a r ih => rw [List.flatMap_cons, List.length_append, ih, List.length_cons]; simp [dF]; omega
theorem N8 (l : List Sx.Tm) : ∀ u ∈ l.flatMap dF, u.oneCell' = true := by
 intro u hu
 obtain ⟨x, _, h⟩ := List.mem_flatMap.1 hu
 exact uO x u h
theorem Fx {α : Type} {z : Nat} (cells : α → List Value) (hz : ∀ x, (cells x).length = z) : ∀ xs : List α, (xs.flatMap cells).length = xs.length * z
 | [] => by simp
 | a :: r => by rw [List.flatMap_cons, List.length_append, Fx cells hz r, hz, List.length_cons, Nat.add_mul]; omega
theorem Sb {α : Type} {z : Nat} {cells : α → List Value} {w : World} {a : Option Addr} {n cap : Nat} {xs : List α} (hz : ∀ x, (cells x).length = z) (hz0 : 0 < z) (h : Rd z cells w (.slice a n cap) xs) :
  (∀ ad, a = some ad → ∀ j u, (xs.flatMap cells)[j]? = some u → w.cell? (ad.add j) = some u) ∧ (a = none → xs.length = 0) := by
 obtain ⟨a', cap', h1, h2⟩ := h
 simp at h1
 obtain ⟨rfl, _, _⟩ := h1
 constructor
 ·intro ad had j u hj
  have hne : xs ≠ [] := by rintro rfl; simp at hj
  obtain ⟨b, o, e, hb, hc⟩ := h2 hne
  rw [had] at e
  simp at e
  subst e
  have hl := Fx cells hz xs
  have hjl : j < xs.length * z := by rw [← hl]; exact (q4L.1 hj).1
  have hi : j / z < xs.length := Nat.div_lt_of_lt_mul (by rw [Nat.mul_comm]; exact hjl)
  have hk : j % z < z := Nat.mod_lt _ hz0
  obtain ⟨y, hx⟩ : ∃ y, xs[j / z]? = some y := ⟨_, q4G hi⟩
  obtain ⟨v, hv⟩ : ∃ v, (cells y)[j % z]? = some v := ⟨_, q4G (by rw [hz]; exact hk)⟩
  have f := flat_get cells hz xs (j / z) _ hx (j % z) v hv
  have e2 : j / z * z + j % z = j := by rw [Nat.mul_comm]; exact Nat.div_add_mod j z
  rw [e2, hj] at f
  simp at f
  subst f
  have := hc (j / z) _ hx (j % z) u hv
  rw [show o + j / z * z + j % z = o + j by rw [Nat.add_assoc, e2]] at this
  cases j with
  | zero => simpa [Addr.add] using this
  | succ j => simpa [Addr.add] using this
 ·intro ha
  by_cases hne : xs = []
  ·simp [hne]
  ·obtain ⟨b, o, e, _⟩ := h2 hne
   rw [ha] at e; cases e
theorem N7 {w : World} {a : Option Addr} {n cap : Nat} {xs : List Sx.Tm} (h : xH w (.slice a n cap) xs) :
  (∀ ad, a = some ad → ∀ j u, (xs.flatMap dF)[j]? = some u → w.cell? (ad.add j) = some u) ∧ (a = none → xs.length = 0) := Sb (fun _ => rfl) (by decide) h
theorem LG {N : Nat} {w a b : World} {e : TypeId} {z n : Nat} {v : Value} {xs : List Value} (h : Below N w a) (ho : a.ownsRow N e z v n xs) (hs : N ≤ a.heap.size) (hg : a.grownBy b v.ownBlock) : Below N w b :=
 h.grown hg hs (fun k hk => (ho.lt k hk).1)
theorem F9 (rs : List Sx.Rl) (x : Sx.Er) (M : Nat) (ra : Option Addr) (rcap : Nat) (w : World) (h4 : w.cell? ⟨M, 4, none⟩ = some (.slice ra rs.length rcap)) (hM : M < w.heap.size) (h : bN w (.slice ra rs.length rcap) rs) (hs : ∀ r ∈ rs, r.name.length ≤ maxLen ∧ r.letter.length ≤ maxLen) :
  Calls Tryz.prog 176 #[.pointer (some ⟨M, 0, none⟩), iF x] w fun e w' => ∃ v, e = .returned v ∧ lG w' w.heap.size v (kD rs x) ∧ Below w.heap.size w w' := by
 obtain ⟨N, hN⟩ : ∃ N, w.heap.size = N := ⟨_, rfl⟩
 obtain ⟨V, gV, L0, hb, sz⟩ := aR w #[.int .i64 x.shift, af x.rules, .int .i64 x.save, af x.format, .bool x.opn, .int .i64 x.uy, .int .i64 x.um, .int .i64 x.ud, .int .i64 x.uat, .int .i64 x.uclock] 67
 obtain ⟨V1, gV1, hV1, hb1, sz1⟩ := aR V #[.int .i64 (-62135596800), .int .i64 x.save, .string ⟨#[]⟩] 72
 have OW : lG V1 N (.slice (some ⟨V.heap.size, 0, none⟩) 1 1) [⟨-62135596800, x.save, []⟩] := by
  have := World.ownsRow_lit (e := 72) (size := 3) (base := N) V #[.int .i64 (-62135596800), .int .i64 x.save, .string ⟨#[]⟩] 1 (by rw [sz, hN]; omega) (by decide) rfl
  rw [gV1] at this
  exact this
 have LV : ag V1 N [.int .i64 x.shift, af x.rules, .int .i64 x.save, af x.format, .bool x.opn, .int .i64 x.uy, .int .i64 x.um, .int .i64 x.ud, .int .i64 x.uat, .int .i64 x.uclock] := ah (hN ▸ L0) hb1
 have LV0 : ag V N [.int .i64 x.shift, af x.rules, .int .i64 x.save, af x.format, .bool x.opn, .int .i64 x.uy, .int .i64 x.um, .int .i64 x.ud, .int .i64 x.uat, .int .i64 x.uclock] := hN ▸ L0
 have BV : Below N w V1 := by rw [← hN]; exact hb.trans (hb1.mono (by omega))
 have m4 : V1.cell? ⟨M, 4, none⟩ = some (.slice ra rs.length rcap) := (BV.cell (p := ⟨M, 4, none⟩) (by show M < N; omega)).trans h4
 have sM : M < V1.heap.size := by omega
 have sN : N < V1.heap.size := by omega
 have HT := hid (fun W (hW : Below V1.heap.size V1 W) => CK rs (.slice ra rs.length rcap) x.rules x.shift W (au (au h (hN ▸ BV)) hW) hs)
 obtain ⟨y2, _⟩ := aa LV0 2 rfl
 have sy := LV0.1
 obtain ⟨⟨x0, _⟩, ⟨x1, _⟩, -⟩ := cp2 LV
 have SS : Hid (V1.cell? ⟨M, 4, none⟩ = some (.slice ra rs.length rcap) ∧ V1.cell? ⟨N, 1, none⟩ = some (af x.rules) ∧ V1.cell? ⟨N, 0, none⟩ = some (.int .i64 x.shift)) := ⟨m4, x1, x0⟩
 have KS : Hid (∀ w7, Below V1.heap.size V1 w7 → w7.cell? ⟨M, 4, none⟩ = some (.slice ra rs.length rcap) ∧ w7.cell? ⟨N, 1, none⟩ = some (af x.rules) ∧ w7.cell? ⟨N, 0, none⟩ = some (.int .i64 x.shift)) := fun w7 hb => ⟨(hb.cell (p := ⟨M, 4, none⟩) sM).trans m4, (hb.cell (p := ⟨N, 1, none⟩) sN).trans x1, (hb.cell (p := ⟨N, 0, none⟩) sN).trans x0⟩
 obtain ⟨G, hG⟩ : ∃ G, V.heap.size = G := ⟨_, rfl⟩
 rw [hG] at OW
 have HOW := hid OW
 have HBV := hid BV
 have hGN : N + 1 = G := by omega
 clear h4 h L0 hb hb1 sz sz1 hV1 LV LV0 OW BV
 cases hr : x.rules.isEmpty
 case true =>
  have hr0 : x.rules = [] := by simpa using hr
  have ET : Hid (kD rs x = [⟨-62135596800, x.save, []⟩]) := by show _ = _; unfold kD; rw [if_pos hr0]
  clear HT KS SS hr0
  go_enter Tryz.func176, Tryz.ntmps176
  go_wp2
  go_ret
  exact ⟨_, rfl, by rw [hN, ET.out]; exact HOW.out, hN ▸ HBV.out⟩
 have hr0 : x.rules ≠ [] := by intro q; rw [q] at hr; cases hr
 have ET : Hid (kD rs x = ⟨-62135596800, x.save, []⟩ :: Sx.times rs x.rules x.shift) := by show _ = _; unfold kD; rw [if_neg hr0]
 clear hr0
 go_enter Tryz.func176, Tryz.ntmps176
 go_upto_region 4 with fail
 refine wp_region_held_drew (S := fun w' => w'.cell? ⟨M, 4, none⟩ = some (.slice ra rs.length rcap) ∧ w'.cell? ⟨N, 1, none⟩ = some (af x.rules) ∧ w'.cell? ⟨N, 0, none⟩ = some (.int .i64 x.shift)) (by kernel_rfl) SS.out (fun hHeld => ?_)
 refine tkA 0 rfl ?_
 refine tkA 1 rfl ?_
 refine tkA 2 rfl ?_
 refine tkA 3 rfl ?_
 refine tkA 4 rfl ?_
 refine tkA 5 rfl ?_
 refine tkA 6 rfl ?_
 refine tkA 7 rfl ?_
 refine rdH 8 rfl fun K hK => ?_
 go_simp
 refine (HT.out _ (show Below V1.heap.size V1 V1.drew from ⟨rfl, rfl, rfl, Nat.le_refl _, fun _ _ => rfl⟩)).mono ?_
 rintro e w7 ⟨tv, rfl, hO, hb7⟩
 have hb := bq hb7
 have S7 := KS.out w7 hb
 refine hK.out _ _ ?_ (fun hHeld => ?_)
 ·exact S7
 clear hK K
 try simp only [Act.put, j]
 refine tkA 9 rfl ?_
 refine tkA 10 rfl ?_
 refine tkA 11 rfl ?_
 refine tkA 12 rfl ?_
 refine tkA 13 rfl ?_
 refine wpAnyH_done (by kernel_rfl) ?_ _
 have HO := hid (pU hO)
 obtain ⟨ta, tc, rfl⟩ := aF hO
 obtain ⟨T, hT⟩ : ∃ T, Sx.times rs x.rules x.shift = T := ⟨_, rfl⟩
 have hT1 : T.length ≤ 1000 := by rw [← hT]; exact Sx.oJ _ _ _
 obtain ⟨E, hE⟩ : ∃ E, Sx.aY rs x.rules x.shift = E := ⟨_, rfl⟩
 rw [hT] at HO ET ⊢
 rw [hE]
 have B7 : Hid (Below N w w7) := HBV.out.trans (hb.mono (by omega))
 have O7 := hid (aJ HOW.out hb)
 have s7 : N ≤ w7.heap.size := by have := hb.size; omega
 clear hO HT KS SS hT hE hb7 S7 m4 x0 x1 y2 sy hr
 obtain ⟨i0, hi, hz0, hz1, hz2⟩ := info_parts Tryz.FH
 have news := N7 HO.out
 go_wp2_with (at_builtin; refine jJ rfl _ _ 68 rfl N 72 i0 (.agg #[.int .i64 0, .int .i64 0, .string ⟨#[]⟩]) 3 32 Tryz.underlying68 hi hz0 hz1 hz2 rfl (by decide) (.slice (some ⟨G, 0, none⟩) 1 1) 1 _ rfl O7.out ta T.length tc (T.flatMap dF) rfl (QW T) news.1 news.2 (N8 T) (by unfold maxLen; omega) (by omega) s7 ?_; intro v' w9 hown9 hgrow9)
 go_ret
 refine ⟨_, rfl, ?_, ?_⟩
 ·rw [hN, ET.out]
  have e : (⟨-62135596800, x.save, []⟩ :: T : List Sx.Tm).length = 1 + T.length := by simp; omega
  unfold lG
  rw [e]
  exact hown9
 ·rw [hN]
  exact LG B7.out O7.out s7 hgrow9
end
section
open Go.RowKit Go.Shelf
attribute [local go_sem] Oper.semAt_some
attribute [local go_sem ↓] Go.wp_at_zero Go.wp_at_succ

def gW (x : Sx.Er) (t : Sx.Tm) : Tb.Lc := ⟨x.shift + t.save, t.save, jQ x.format t.save t.letter⟩
/- until when what is saved stays so -/
def endT (til : Int) : List Sx.Tm → Int
 | [] => til
 | u :: _ => min til u.at_
def jN (x : Sx.Er) (frm til : Int) : List Sx.Tm → Ms → Ms
 | [], s => s
 | t :: r, s => jN x frm til r (if max frm t.at_ < endT til r then nZ (max frm t.at_) (gW x t) s else s)
theorem lK (x : Sx.Er) (frm til : Int) (t : Sx.Tm) (r : List Sx.Tm) (s : Ms) : jN x frm til (t :: r) s = jN x frm til r (if max frm t.at_ < endT til r then nZ (max frm t.at_) (gW x t) s else s) := rfl
theorem vC (x : Sx.Er) (frm til : Int) : ∀ (l : List Sx.Tm) (s : Ms), (jN x frm til l s).ch.length ≤ s.ch.length + l.length
 | [], s => by simp [jN]
 | t :: r, s => by
   rw [lK]
   refine Nat.le_trans (vC x frm til r _) ?_
   have h1 := Gx (max frm t.at_) (gW x t) s
   rw [List.length_cons]
   split
   all_goals omega
/- an era of which nothing is wrong -/
structure xV (x : Sx.Er) : Prop where
 fmt : x.format.length ≤ 1000000
 sh : -1000000000000 ≤ x.shift ∧ x.shift ≤ 1000000000000
structure xY (t : Sx.Tm) : Prop where
 let_ : t.letter.length ≤ 1000000
 sv : -1000000000000 ≤ t.save ∧ t.save ≤ 1000000000000
theorem MP (rs : List Sx.Rl) (x : Sx.Er) (frm to_ m : Int) {B M : Nat} {s : Ms} {cv : Value} {ra : Option Addr} {rcap : Nat} {w : World} (h : Mk B M s cv (.slice ra rs.length rcap) w) (hl : s.ch.length ≤ 100000) (hr : bN w (.slice ra rs.length rcap) rs) (hs : ∀ r ∈ rs, r.name.length ≤ maxLen ∧ r.letter.length ≤ maxLen)
  (hm : w.cell? ⟨0, 0, none⟩ = some (.int .i64 m)) (hM0 : M ≠ 0) (hx : xV x) (ht : ∀ t ∈ kD rs x, xY t) :
  Calls Tryz.prog 132 #[.pointer (some ⟨M, 0, none⟩), iF x, .int .i64 frm, .int .i64 to_] w fun e w' => ∃ cv', e = .returned (.tuple #[]) ∧ Mk B M (jN x frm to_ (kD rs x) s) cv' (.slice ra rs.length rcap) w' ∧ MkF B M w w' := by
 obtain ⟨X, hX⟩ : ∃ X, w.heap.size = X := ⟨_, rfl⟩
 obtain ⟨V, gV, L0, hb, sz⟩ := aR w #[.int .i64 x.shift, af x.rules, .int .i64 x.save, af x.format, .bool x.opn, .int .i64 x.uy, .int .i64 x.um, .int .i64 x.ud, .int .i64 x.uat, .int .i64 x.uclock] 67
 have LV : ag V X [.int .i64 x.shift, af x.rules, .int .i64 x.save, af x.format, .bool x.opn, .int .i64 x.uy, .int .i64 x.um, .int .i64 x.ud, .int .i64 x.uat, .int .i64 x.uclock] := hX ▸ L0
 have TV : IsT V X 67 := by rw [← gV, ← hX]; exact DL w _ _
 have MV := gJ h hb
 have hM : M < w.heap.size := h.box.1
 have HT := hid (F9 rs x M ra rcap V (aa MV.box 4 rfl).1 MV.box.1 (au hr hb) hs)
 have FV : MkF B M w V := iG hb h.bS
 have HM0 : Hid (w.cell? ⟨0, 0, none⟩ = some (.int .i64 m) ∧ 0 < B ∧ 0 ≠ M ∧ 0 < w.heap.size) := ⟨hm, by have := h.mB; omega, fun e => hM0 e.symm, by omega⟩
 have HX := hid hx
 have HTF := hid ht
 obtain ⟨T, hT⟩ : ∃ T, kD rs x = T := ⟨_, rfl⟩
 have hT1 : T.length ≤ 1001 := by rw [← hT]; exact yF rs x
 rw [hT] at HT HTF ⊢
 obtain ⟨R, hR⟩ : ∃ R, jN x frm to_ T s = R := ⟨_, rfl⟩
 have HR := hid hR
 rw [hR]
 have HMV := hid MV
 have HFV := hid FV
 have HLV := hid LV
 have HTV := hid TV
 have hMX : M ≠ X := by omega
 obtain ⟨⟨a0, _⟩, ⟨a1, _⟩, ⟨a2, _⟩, ⟨a3, _⟩, ⟨a4, _⟩, ⟨a5, _⟩, ⟨a6, _⟩, ⟨a7, _⟩, ⟨a8, _⟩, ⟨a9, _⟩, sx⟩ := cp10 LV
 clear h hr hs hm hx ht hT hR MV FV LV TV L0 hb
 go_enter Tryz.func132, Tryz.ntmps132
 go_wp2_with fail
 refine HT.out.mono ?_
 rintro e w1 ⟨tv, rfl, hO, hb⟩
 have M1 := hid (gJ HMV.out hb)
 have F1 : Hid (MkF B M w w1) := dB HFV.out (iG hb HMV.out.bS)
 have X1 := hid (ah HLV.out hb)
 have TX1 := hid (vF HTV.out hb)
 have O1 := hid hO
 obtain ⟨ta, tc, rfl⟩ := aF hO
 clear hO HT HMV HFV HLV HTV a0 a1 a2 a3 a4 a5 a6 a7 a8 a9 sx hb
 go_wp2_with fail
 go_loopw [18] (fun iv wr => ∃ (i : Nat) (s' : Ms) (cv' : Value), i ≤ T.length ∧ iv = .int .i64 i ∧ s'.ch.length ≤ s.ch.length + i ∧ Hid (Mk B M s' cv' (.slice ra rs.length rcap) wr) ∧ Hid (MkF B M w1 wr) ∧ Hid (jN x frm to_ (T.drop i) s' = R)) (fun iv _ => T.length - (intOf iv).toNat)
 case atStart => exact ⟨0, s, cv, Nat.zero_le _, rfl, by omega, M1, Qc _ _ _, by show jN _ _ _ (T.drop 0) _ = _; rw [List.drop_zero]; exact HR.out⟩
 case round =>
  obtain ⟨i, s', cv', hi, rfl, hlen, MR, FR, HG⟩ := hrel
  by_cases hlt : i < T.length
  case neg =>
   have e : T.drop i = [] := List.drop_eq_nil_of_le (by omega)
   have e2 : Hid (s' = R) := by have := HG.out; rw [e] at this; exact this
   have q : ¬ (i : Int) < (T.length : Int) := by omega
   clear hlt e HG
   go_wp2_with fail
   go_end0
   exact ⟨rfl, ⟨cv', by rw [← e2.out]; exact MR.out⟩, dB F1.out FR.out⟩
  have q : (i : Int) < (T.length : Int) := by omega
  obtain ⟨t, htt⟩ : ∃ t, T[i]? = some t := ⟨_, q4G hlt⟩
  have OR := Qr O1.out (by decide) M1.out.ty (by decide) FR.out
  obtain ⟨tb, to2, e, htb, hc⟩ := aN (pU OR) htt
  subst e
  have t0 : wr.cell? ⟨tb, to2 + i * 3, none⟩ = some (.int .i64 t.at_) := by have := hc 0 _ rfl; simpa using this
  have t1 : wr.cell? ⟨tb, to2 + i * 3 + 1, none⟩ = some (.int .i64 t.save) := hc 1 _ rfl
  have t2 : wr.cell? ⟨tb, to2 + i * 3 + 2, none⟩ = some (af t.letter) := hc 2 _ rfl
  have XR := hid (Tk X1.out TX1.out (by decide) (Ne.symm hMX) FR.out)
  have TXR := hid (RD TX1.out (by decide) (Ne.symm hMX) FR.out)
  have HTT := hid htt
  have HTFi := hid (HTF.out t (List.mem_of_getElem? htt))
  have hdr : T.drop i = t :: T.drop (i + 1) := Sx.eD htt
  obtain ⟨en, hen⟩ : ∃ en, endT to_ (T.drop (i + 1)) = en := ⟨_, rfl⟩
  have HEN := hid hen
  have HG2 : Hid (jN x frm to_ (T.drop (i + 1)) (if max frm t.at_ < en then nZ (max frm t.at_) (gW x t) s' else s') = R) := by
   have := HG.out
   rw [hdr, lK, hen] at this
   exact this
  have HOR := hid OR
  obtain ⟨V2, gV2, L2, hb2, sz2⟩ := aR wr #[.int .i64 t.at_, .int .i64 t.save, .string ⟨t.letter.toArray⟩] 72
  obtain ⟨Y, hY⟩ : ∃ Y, wr.heap.size = Y := ⟨_, rfl⟩
  have LY : ag V2 Y [.int .i64 t.at_, .int .i64 t.save, af t.letter] := hY ▸ L2
  have MV2 := hid (gJ MR.out hb2)
  have FV2 : Hid (MkF B M w1 V2) := dB FR.out (iG hb2 MR.out.bS)
  have XV2 := hid (ah XR.out hb2)
  have OV2 := hid (aJ OR hb2)
  have HLY := hid LY
  clear hc htt hdr hen HG L2 MR FR XR HOR OR TXR
  obtain ⟨y0, _⟩ := aa HLY.out 0 rfl
  have sy := HLY.out.1
  go_upto_region 5 with fail
  clear t0 t1 t2 htb
  go_cut [11, 12] from 19 to 50 (fun s11 s12 wc => wc = V2 ∧ s11 = .int .i64 (max frm t.at_) ∧ s12 = .int .i64 to_)
  case first =>
   go_wp2_with fail
   go_meet
   exact ⟨rfl, rfl, rfl⟩
  case rest =>
  obtain ⟨rfl, rfl, rfl⟩ := hcut
  obtain ⟨bg, hbg⟩ : ∃ bg, max frm t.at_ = bg := ⟨_, rfl⟩
  rw [hbg] at HG2 ⊢
  clear hbg
  have OVb := OV2.out
  go_upto_if 32 with fail
  go_cut [12] from 19 to 50 (fun s12 w' => w' = wc ∧ s12 = .int .i64 en)
  case first =>
   by_cases hn : i + 1 < T.length
   ·obtain ⟨u, hu⟩ : ∃ u, T[i + 1]? = some u := ⟨_, q4G hn⟩
    have hdr : T.drop (i + 1) = u :: T.drop (i + 1 + 1) := Sx.eD hu
    have e1 : min to_ u.at_ = en := by have := HEN.out; rw [hdr] at this; exact this
    obtain ⟨tb', to2', e, htb, hc⟩ := aN (pU OVb) hu
    simp only [Option.some.injEq, Addr.mk.injEq] at e
    obtain ⟨rfl, rfl, _⟩ := e
    have u0 : wc.cell? ⟨tb, to2 + (i + 1) * 3, none⟩ = some (.int .i64 u.at_) := by have := hc 0 _ rfl; simpa using this
    have q1 : ((i : Int) + 1) < (T.length : Int) := by omega
    have E1 := hid e1
    clear hc hu hdr e1 hn OVb
    go_wp2_with fail
    go_meet
    exact ⟨rfl, by rw [E1.out]⟩
   ·have hdr : T.drop (i + 1) = [] := List.drop_eq_nil_of_le (by omega)
    have e1 : to_ = en := by have := HEN.out; rw [hdr] at this; exact this
    have E1 := hid e1
    have q1 : ¬ ((i : Int) + 1) < (T.length : Int) := by omega
    clear hdr e1 hn OVb
    go_wp2_with fail
    go_meet
    exact ⟨rfl, by rw [E1.out]⟩
  case rest =>
  obtain ⟨rfl, rfl⟩ := hcut
  clear OVb y0 sy hb2 sz2 LY
  by_cases hbe : bg < en
  case neg =>
   have HG3 : Hid (jN x frm to_ (T.drop (i + 1)) s' = R) := by have := HG2.out; rw [if_neg hbe] at this; exact this
   clear HG2
   go_wp2_with fail
   go_roundw
   case rel => exact ⟨i + 1, s', cv', by omega, by go_num, by omega, MV2, FV2, HG3⟩
   case measure => simp [intOf]; omega
  have HG3 : Hid (jN x frm to_ (T.drop (i + 1)) (nZ bg (gW x t) s') = R) := by have := HG2.out; rw [if_pos hbe] at this; exact this
  have m0 : wc.cell? ⟨0, 0, none⟩ = some (.int .i64 m) := (World.cell?_of_block ((dB F1.out FV2.out).low 0 HM0.out.2.1 HM0.out.2.2.1)).trans HM0.out.1
  have CL := hid (MH x t m wc HX.out.fmt HTFi.out.let_ m0 (by have := (dB F1.out FV2.out).size; have := HM0.out.2.2.2; omega) HX.out.sh HTFi.out.sv)
  obtain ⟨⟨a0, _⟩, ⟨a1, _⟩, ⟨a2, _⟩, ⟨a3, _⟩, ⟨a4, _⟩, ⟨a5, _⟩, ⟨a6, _⟩, ⟨a7, _⟩, ⟨a8, _⟩, ⟨a9, _⟩, sx⟩ := cp10 XV2.out
  obtain ⟨⟨y0, _⟩, ⟨y1, _⟩, ⟨y2, _⟩, sy⟩ := cp3 HLY.out
  clear HG2 m0
  go_wp2_with fail
  refine CL.out.mono ?_
  rintro e w5 ⟨rfl, hb5⟩
  have HP := hid (MS (gJ MV2.out hb5) (by omega) bg (gW x t))
  have F5 : Hid (MkF B M w1 w5) := dB FV2.out (iG hb5 MV2.out.bS)
  clear a0 a1 a2 a3 a4 a5 a6 a7 a8 a9 sx y0 y1 y2 sy hb5 CL MV2 FV2 XV2 OV2
  go_wp2_with fail
  refine HP.out.mono ?_
  rintro e w6 ⟨cv6, rfl, M6, F6⟩
  have M7 := hid M6
  have F7 : Hid (MkF B M w1 w6) := dB F5.out F6
  have hlen2 := Gx bg (gW x t) s'
  clear M6 F6 F5 HP
  go_wp2_with fail
  go_roundw
  case rel => exact ⟨i + 1, _, cv6, by omega, by go_num, by omega, M7, F7, HG3⟩
  case measure => simp [intOf]; omega
end
section
open Go.RowKit Go.Shelf
attribute [local go_sem] Oper.semAt_some
attribute [local go_sem ↓] Go.wp_at_zero Go.wp_at_succ

/- until when an era is -/
def yD : List Int → Int
 | [] => 253402300800
 | n :: _ => min 253402300800 n
def jm (rs : List Sx.Rl) : Int → List Sx.Er → List Int → Ms → Ms
 | _, [], _, s => s
 | f, x :: r, l, s => jm rs (yD l) r l.tail (jN x f (yD l) (kD rs x) s)
theorem kP (rs : List Sx.Rl) (f : Int) (x : Sx.Er) (r : List Sx.Er) (l : List Int) (s : Ms) : jm rs f (x :: r) l s = jm rs (yD l) r l.tail (jN x f (yD l) (kD rs x) s) := rfl
theorem CG {α : Type} (l : List α) (i : Nat) : (l.drop i).tail = l.drop (i + 1) := by rw [List.tail_drop]
theorem Js (rs : List Sx.Rl) (z : Sx.Zn) (L : List Int) (m : Int) {B M : Nat} {s : Ms} {cv : Value} {ra ea la : Option Addr} {rcap ecap lcap : Nat} {w : World} (h : Mk B M s cv (.slice ra rs.length rcap) w) (hl : s.ch.length ≤ 1000)
  (hst : ∀ w', MkF B M w w' → bN w' (.slice ra rs.length rcap) rs ∧ fA w' (.slice ea z.eras.length ecap) z.eras ∧ jT w' (.slice la L.length lcap) L) (hs : ∀ r ∈ rs, r.name.length ≤ maxLen ∧ r.letter.length ≤ maxLen)
  (hm : w.cell? ⟨0, 0, none⟩ = some (.int .i64 m)) (hM0 : M ≠ 0) (h8 : z.eras.length ≤ 8) (hx : ∀ x ∈ z.eras, xV x ∧ ∀ t ∈ kD rs x, xY t) :
  Calls Tryz.prog 71 #[.pointer (some ⟨M, 0, none⟩), .agg #[af z.name, .slice ea z.eras.length ecap], .slice la L.length lcap] w fun e w' => ∃ cv', e = .returned (.tuple #[]) ∧ Mk B M (jm rs (-62135596800) z.eras L s) cv' (.slice ra rs.length rcap) w' ∧ MkF B M w w' := by
 obtain ⟨X, hX⟩ : ∃ X, w.heap.size = X := ⟨_, rfl⟩
 obtain ⟨V, gV, L0, hb, sz⟩ := aR w #[af z.name, .slice ea z.eras.length ecap] 44
 have LV : ag V X [af z.name, .slice ea z.eras.length ecap] := hX ▸ L0
 have MV := hid (gJ h hb)
 have FV : Hid (MkF B M w V) := iG hb h.bS
 have hM : M < w.heap.size := h.box.1
 have HM0 : Hid (w.cell? ⟨0, 0, none⟩ = some (.int .i64 m) ∧ 0 < B ∧ 0 ≠ M) := ⟨hm, by have := h.mB; omega, fun e => hM0 e.symm⟩
 have HST := hid hst
 have HS := hid hs
 have HX := hid hx
 obtain ⟨es, hes⟩ : ∃ es, z.eras = es := ⟨_, rfl⟩
 rw [hes] at LV HST HX h8 ⊢
 obtain ⟨R, hR⟩ : ∃ R, jm rs (-62135596800) es L s = R := ⟨_, rfl⟩
 have HR := hid hR
 rw [hR]
 obtain ⟨⟨a0, _⟩, ⟨a1, _⟩, sx⟩ := cp2 LV
 rw [hes] at gV
 clear h hst hs hm hx hR L0 hb hes LV
 go_enter Tryz.func71, Tryz.ntmps71
 go_wp2_with fail
 go_loopw [6, 13] (fun fv iv wr => ∃ (i : Nat) (f : Int) (s' : Ms) (cv' : Value), i ≤ es.length ∧ iv = .int .i64 i ∧ fv = .int .i64 f ∧ s'.ch.length ≤ s.ch.length + i * 1001 ∧ Hid (Mk B M s' cv' (.slice ra rs.length rcap) wr) ∧ Hid (MkF B M w wr) ∧ Hid (jm rs f (es.drop i) (L.drop i) s' = R)) (fun _ iv _ => es.length - (intOf iv).toNat)
 case atStart => exact ⟨0, -62135596800, s, cv, Nat.zero_le _, rfl, rfl, by omega, MV, FV, by show jm _ _ (es.drop 0) (L.drop 0) _ = _; rw [List.drop_zero, List.drop_zero]; exact HR.out⟩
 case round =>
  clear MV FV a0 a1 sx
  obtain ⟨i, f, s', cv', hi, rfl, rfl, hlen, MR, FR, HG⟩ := hrel
  by_cases hlt : i < es.length
  case neg =>
   have e : es.drop i = [] := List.drop_eq_nil_of_le (by omega)
   have e2 : Hid (s' = R) := by have := HG.out; rw [e] at this; exact this
   have q : ¬ (i : Int) < (es.length : Int) := by omega
   clear hlt e HG
   go_wp2_with fail
   go_end0
   exact ⟨rfl, ⟨cv', by rw [← e2.out]; exact MR.out⟩, FR.out⟩
  have q : (i : Int) < (es.length : Int) := by omega
  obtain ⟨x, hx⟩ : ∃ x, es[i]? = some x := ⟨_, q4G hlt⟩
  obtain ⟨RR, RE, RL⟩ := HST.out wr FR.out
  obtain ⟨eb, eo, e, heb, hc⟩ := aN RE hx
  subst e
  have e0 : wr.cell? ⟨eb, eo + i * 10, none⟩ = some (.int .i64 x.shift) := by have := hc 0 _ rfl; simpa using this
  have e1 : wr.cell? ⟨eb, eo + i * 10 + 1, none⟩ = some (af x.rules) := hc 1 _ rfl
  have e2 : wr.cell? ⟨eb, eo + i * 10 + 2, none⟩ = some (.int .i64 x.save) := hc 2 _ rfl
  have e3 : wr.cell? ⟨eb, eo + i * 10 + 3, none⟩ = some (af x.format) := hc 3 _ rfl
  have e4 : wr.cell? ⟨eb, eo + i * 10 + 4, none⟩ = some (.bool x.opn) := hc 4 _ rfl
  have e5 : wr.cell? ⟨eb, eo + i * 10 + 5, none⟩ = some (.int .i64 x.uy) := hc 5 _ rfl
  have e6 : wr.cell? ⟨eb, eo + i * 10 + 6, none⟩ = some (.int .i64 x.um) := hc 6 _ rfl
  have e7 : wr.cell? ⟨eb, eo + i * 10 + 7, none⟩ = some (.int .i64 x.ud) := hc 7 _ rfl
  have e8 : wr.cell? ⟨eb, eo + i * 10 + 8, none⟩ = some (.int .i64 x.uat) := hc 8 _ rfl
  have e9 : wr.cell? ⟨eb, eo + i * 10 + 9, none⟩ = some (.int .i64 x.uclock) := hc 9 _ rfl
  have HXi := hid (HX.out x (List.mem_of_getElem? hx))
  have hdr : es.drop i = x :: es.drop (i + 1) := Sx.eD hx
  obtain ⟨tt, htt⟩ : ∃ tt, yD (L.drop i) = tt := ⟨_, rfl⟩
  have HTT := hid htt
  have HG2 : Hid (jm rs tt (es.drop (i + 1)) (L.drop (i + 1)) (jN x f tt (kD rs x) s') = R) := by
   have := HG.out
   rw [hdr, kP, htt, CG] at this
   exact this
  obtain ⟨V2, gV2, L2, hb2, sz2⟩ := aR wr #[.int .i64 x.shift, af x.rules, .int .i64 x.save, af x.format, .bool x.opn, .int .i64 x.uy, .int .i64 x.um, .int .i64 x.ud, .int .i64 x.uat, .int .i64 x.uclock] 67
  obtain ⟨Y, hY⟩ : ∃ Y, wr.heap.size = Y := ⟨_, rfl⟩
  have LY : ag V2 Y [.int .i64 x.shift, af x.rules, .int .i64 x.save, af x.format, .bool x.opn, .int .i64 x.uy, .int .i64 x.um, .int .i64 x.ud, .int .i64 x.uat, .int .i64 x.uclock] := hY ▸ L2
  have MV2 := hid (gJ MR.out hb2)
  have FV2 : Hid (MkF B M w V2) := dB FR.out (iG hb2 MR.out.bS)
  have RR2 := hid (au RR hb2)
  have RL2 := hid (au RL hb2)
  have HLY := hid LY
  clear hc hx hdr htt HG L2 MR FR RR RE RL LY
  go_upto_if 21 with fail
  clear e0 e1 e2 e3 e4 e5 e6 e7 e8 e9 heb
  go_cut [9] from 14 to 34 (fun s9 wc => wc = V2 ∧ s9 = .int .i64 tt)
  case first =>
   by_cases hn : i < L.length
   ·obtain ⟨u, hu⟩ : ∃ u, L[i]? = some u := ⟨_, q4G hn⟩
    have hdr : L.drop i = u :: L.drop (i + 1) := Sx.eD hu
    have e1 : min 253402300800 u = tt := by have := HTT.out; rw [hdr] at this; exact this
    obtain ⟨lb, lo, e, hlb, hc⟩ := aN RL2.out hu
    subst e
    have u0 : V2.cell? ⟨lb, lo + i, none⟩ = some (.int .i64 u) := by have := hc 0 _ rfl; simpa using this
    have q1 : (i : Int) < (L.length : Int) := by omega
    have E1 := hid e1
    clear hc hu hdr e1 hn
    go_wp2_with fail
    go_meet
    exact ⟨rfl, by rw [E1.out]⟩
   ·have hdr : L.drop i = [] := List.drop_eq_nil_of_le (by omega)
    have e1 : 253402300800 = tt := by have := HTT.out; rw [hdr] at this; exact this
    have E1 := hid e1
    have q1 : ¬ (i : Int) < (L.length : Int) := by omega
    clear hdr e1 hn
    go_wp2_with fail
    go_meet
    exact ⟨rfl, by rw [E1.out]⟩
  case rest =>
  obtain ⟨rfl, rfl⟩ := hcut
  have m0 : wc.cell? ⟨0, 0, none⟩ = some (.int .i64 m) := (World.cell?_of_block (FV2.out.low 0 HM0.out.2.1 HM0.out.2.2)).trans HM0.out.1
  have CE := hid (MP rs x f tt m MV2.out (by omega) RR2.out HS.out m0 (fun e => HM0.out.2.2 e.symm) HXi.out.1 HXi.out.2)
  obtain ⟨⟨y0, _⟩, ⟨y1, _⟩, ⟨y2, _⟩, ⟨y3, _⟩, ⟨y4, _⟩, ⟨y5, _⟩, ⟨y6, _⟩, ⟨y7, _⟩, ⟨y8, _⟩, ⟨y9, _⟩, sy⟩ := cp10 HLY.out
  clear m0 hb2 sz2 RR2 RL2
  go_wp2_with fail
  refine CE.out.mono ?_
  rintro e w5 ⟨cv5, rfl, M5, F5⟩
  have M6 := hid M5
  have F6 : Hid (MkF B M w w5) := dB FV2.out F5
  have hlen2 := vC x f tt (kD rs x) s'
  have hlen3 := yF rs x
  clear M5 F5 CE MV2 FV2 HLY y0 y1 y2 y3 y4 y5 y6 y7 y8 y9 sy
  go_wp2_with fail
  go_roundw
  case rel => exact ⟨i + 1, tt, _, cv5, by omega, by go_num, rfl, by omega, M6, F6, HG2⟩
  case measure => simp [intOf]; omega
end
section
open Go.RowKit Go.Shelf
theorem Jc (hf : Nat) (hc : Array Value) (p : Tb.Cg → Bool) (xs : List Tb.Cg) (ra : Option Addr) (rcap : Nat) (w : World) (h : mF w (.slice ra xs.length rcap) xs) (hxs : xs.length ≤ 10000)
  (eh : ∀ args w, (callFunc hf args).run Tryz.prog w = .ok (.enter hf args) w)
  (hp : ∀ x ∈ xs, ∀ W, Below w.heap.size w W → Calls Tryz.prog hf (#[cgV x] ++ hc) W fun e W' => e = .returned (.bool (p x)) ∧ Below W.heap.size W W') :
  Calls Tryz.prog 179 #[.slice ra xs.length rcap, .func (.func hf) #[] hc] w fun e w' => ∃ r : Int, e = .returned (.int .i64 r) ∧ decide (0 ≤ r) = xs.any p ∧ Below w.heap.size w w' := by
 have H := hid h
 have HP := hid hp
 have HA : Hid ((xs.take 0).any p = false) := rfl
 clear h hp
 go_enter Tryz.func179, Tryz.ntmps179
 go_wp2_with fail
 go_loopw [8] (fun a wr => ∃ k : Nat, k ≤ xs.length ∧ a = .int .i64 k ∧ Hid (Below w.heap.size w wr) ∧ Hid ((xs.take k).any p = false)) (fun a _ => xs.length - (intOf a).toNat)
 case atStart => exact ⟨0, by omega, rfl, q4B _ _, HA⟩
 case round =>
  clear HA
  obtain ⟨k, hk, rfl, B0, HA⟩ := hrel
  by_cases hlt : k < xs.length
  case neg =>
   have e : xs.take k = xs := List.take_of_length_le (by omega)
   rw [e] at HA
   go_wp2
   go_ret
   exact ⟨-1, rfl, by rw [HA.out]; rfl, B0.out⟩
  obtain ⟨x, hx⟩ : ∃ x, xs[k]? = some x := ⟨_, q4G hlt⟩
  obtain ⟨rb, ro, rfl, hrb, hc'⟩ := aN (au H.out B0.out) hx
  have c0 : wr.cell? ⟨rb, ro + k * 4, none⟩ = some (.int .i64 x.at_) := hc' 0 _ rfl
  have c1 : wr.cell? ⟨rb, ro + k * 4 + 1, none⟩ = some (.int .i64 x.lc.shift) := hc' 1 _ rfl
  have c2 : wr.cell? ⟨rb, ro + k * 4 + 2, none⟩ = some (.int .i64 x.lc.save) := hc' 2 _ rfl
  have c3 : wr.cell? ⟨rb, ro + k * 4 + 3, none⟩ = some (af x.lc.name) := hc' 3 _ rfl
  have HX := hid (HP.out x (List.mem_of_getElem? hx) wr B0.out)
  have HS := hid (Sx.dQ hx)
  have HI : Hid (xs.any p = true ∨ p x = false) := by
   show _ ∨ _
   cases q : p x
   ·exact .inr rfl
   ·exact .inl (List.any_eq_true.2 ⟨x, List.mem_of_getElem? hx, q⟩)
  obtain ⟨E, hE⟩ : ∃ E, p x = E := ⟨_, rfl⟩
  rw [hE] at HX HI
  have HE := hid hE
  clear hx hc' hE
  go_wp2_with fail
  refine HX.out.mono ?_
  rintro e w1 ⟨rfl, hb⟩
  have B1 : Hid (Below w.heap.size w w1) := B0.out.trans (hb.mono B0.out.size)
  clear hb B0 hrb c0 c1 c2 c3
  cases E
  case true =>
   go_wp2
   go_ret
   exact ⟨k, rfl, by rw [HI.out.resolve_right (by decide)]; simp, B1.out⟩
  case false =>
   have HA2 : Hid ((xs.take (k + 1)).any p = false) := by show _ = _; rw [HS.out, List.any_append, HA.out]; simp [HE.out]
   clear HA
   go_wp2
   go_roundw
   case rel => exact ⟨k + 1, by omega, by go_num, B1, HA2⟩
   case measure => simp [intOf]; omega
theorem Aw (hf : Nat) (hc : Array Value) (p : Tb.Cg → Bool) (xs : List Tb.Cg) (ra : Option Addr) (rcap : Nat) (w : World) (h : mF w (.slice ra xs.length rcap) xs) (hxs : xs.length ≤ 10000)
  (eh : ∀ args w, (callFunc hf args).run Tryz.prog w = .ok (.enter hf args) w)
  (hp : ∀ x ∈ xs, ∀ W, Below w.heap.size w W → Calls Tryz.prog hf (#[cgV x] ++ hc) W fun e W' => e = .returned (.bool (p x)) ∧ Below W.heap.size W W') :
  Calls Tryz.prog 135 #[.slice ra xs.length rcap, .func (.func hf) #[] hc] w fun e w' => e = .returned (.bool (xs.any p)) ∧ Below w.heap.size w w' := by
 have C := hid (Jc hf hc p xs ra rcap w h hxs eh hp)
 clear h hp
 go_enter Tryz.func135, Tryz.ntmps135
 go_wp2_with fail
 refine C.out.mono ?_
 rintro e w1 ⟨r, rfl, hr, hb⟩
 have HR := hid hr
 clear hr
 go_wp2
 go_ret
 exact ⟨az HR.out, hb⟩

def nameless (c : Tb.Cg) : Bool := !aW c.lc.name
def mkE (s : Ms) : Int := if (!aW s.f.name || s.ch.any nameless) = true then 1 else if 1000 < s.ch.length then 2 else 0
theorem DU (c : Tb.Cg) (w : World) (hc : c.lc.name.length ≤ maxLen) : Calls Tryz.prog 133 #[cgV c] w fun e w' => e = .returned (.bool (nameless c)) ∧ Below w.heap.size w w' := by
 obtain ⟨V, gV, L0, hb, sz⟩ := aR w #[.int .i64 c.at_, .int .i64 c.lc.shift, .int .i64 c.lc.save, af c.lc.name] 86
 obtain ⟨a3, _⟩ := aa L0 3 rfl
 have sx := L0.1
 obtain ⟨b, hbb⟩ : ∃ b, aW c.lc.name = b := ⟨_, rfl⟩
 have HN := hid (mI c.lc.name V hc hbb)
 have HB := hid hb
 have HR : Hid (nameless c = !b) := by show _ = _; unfold nameless; rw [hbb]
 clear hb hbb L0 hc
 go_enter Tryz.func133, Tryz.ntmps133
 go_wp2_with (go_at_call 134; refine HN.out.mono ?_; rintro e w1 ⟨rfl, rfl⟩)
 go_ret
 exact ⟨az HR.out.symm, HB.out⟩
theorem F8 {B M : Nat} {s : Ms} {cv rv : Value} {w : World} (h : Mk B M s cv rv w) (hl : s.ch.length ≤ 10000) (hf : s.f.name.length ≤ maxLen) (hc : ∀ c ∈ s.ch, c.lc.name.length ≤ maxLen) :
  Calls Tryz.prog 72 #[.pointer (some ⟨M, 0, none⟩)] w fun e w' => e = .returned (.int .i64 (mkE s)) ∧ Below w.heap.size w w' := by
 obtain ⟨f, ch⟩ := s
 dsimp only at hf hc hl
 obtain ⟨b, hbb⟩ : ∃ b, aW f.name = b := ⟨_, rfl⟩
 obtain ⟨a, hab⟩ : ∃ a, ch.any nameless = a := ⟨_, rfl⟩
 have HN := hid (mI f.name w hf hbb)
 have hR := pQ h.own
 obtain ⟨oa, ocap, rfl⟩ := bQ hR
 have HA := hid (Aw 133 #[] nameless ch oa ocap w hR hl (enters_of Tryz.func133 (by kernel_rfl) rfl) (fun x hx W _ => DU x W (hc x hx)))
 rw [hab] at HA
 have HM := hid h
 obtain ⟨m2, _⟩ := aa h.box 2 rfl
 obtain ⟨m3, _⟩ := aa h.box 3 rfl
 dsimp only at m2 m3
 have sm := h.box.1
 have HK : Hid (∀ w1, Below w.heap.size w w1 → w1.cell? ⟨M, 3, none⟩ = some (.slice oa ch.length ocap) ∧ M < w1.heap.size) := fun w1 hb => ⟨(hb.cell (p := ⟨M, 3, none⟩) sm).trans m3, q4N sm hb.size⟩
 have HR : Hid (mkE ⟨f, ch⟩ = if (!b || a) = true then 1 else if 1000 < ch.length then 2 else 0) := by show _ = _; unfold mkE; rw [hbb, hab]
 clear h hf hc hbb hab hR
 cases b
 case false =>
  have HR2 : Hid (mkE ⟨f, ch⟩ = 1) := by show _ = _; rw [HR.out]; rfl
  clear HR HA
  go_enter Tryz.func72, Tryz.ntmps72
  go_wp2_with (go_at_call 134; refine HN.out.mono ?_; rintro e w1 ⟨rfl, rfl⟩)
  go_ret
  exact ⟨ai HR2.out.symm, q4B _ _⟩
 cases a
 case true =>
  have HR2 : Hid (mkE ⟨f, ch⟩ = 1) := by show _ = _; rw [HR.out]; rfl
  clear HR
  go_enter Tryz.func72, Tryz.ntmps72
  go_wp2_with (first | (go_at_call 134; refine HN.out.mono ?_; rintro e w1 ⟨rfl, rfl⟩) | (go_at_call 135; refine HA.out.mono ?_; rintro e w1 ⟨rfl, hb⟩; have HB := hid hb; clear hb))
  go_ret
  exact ⟨ai HR2.out.symm, HB.out⟩
 by_cases hk : 1000 < ch.length
 ·have HR2 : Hid (mkE ⟨f, ch⟩ = 2) := by show _ = _; rw [HR.out, if_neg (by decide), if_pos hk]
  have q : (1000 : Int) < (ch.length : Int) := by omega
  clear HR hk
  go_enter Tryz.func72, Tryz.ntmps72
  go_wp2_with (first | (go_at_call 134; refine HN.out.mono ?_; rintro e w1 ⟨rfl, rfl⟩) | (go_at_call 135; refine HA.out.mono ?_; rintro e w1 ⟨rfl, hb⟩; have HB := hid hb; obtain ⟨n3, sn⟩ := HK.out _ hb; clear hb))
  go_ret
  exact ⟨ai HR2.out.symm, HB.out⟩
 ·have HR2 : Hid (mkE ⟨f, ch⟩ = 0) := by show _ = _; rw [HR.out, if_neg (by decide), if_neg hk]
  have q : ¬ (1000 : Int) < (ch.length : Int) := by omega
  clear HR hk
  go_enter Tryz.func72, Tryz.ntmps72
  go_wp2_with (first | (go_at_call 134; refine HN.out.mono ?_; rintro e w1 ⟨rfl, rfl⟩) | (go_at_call 135; refine HA.out.mono ?_; rintro e w1 ⟨rfl, hb⟩; have HB := hid hb; obtain ⟨n3, sn⟩ := HK.out _ hb; clear hb))
  go_ret
  exact ⟨ai HR2.out.symm, HB.out⟩
end
section
open Go.RowKit Go.Shelf
attribute [local go_sem] Oper.semAt_some
attribute [local go_sem ↓] Go.wp_at_zero Go.wp_at_succ

/- names are no longer than formats and letters -/
theorem OH (s sub : Tx.Bs) : (Lib.cut s sub).1.length ≤ s.length ∧ (Lib.cut s sub).2.1.length ≤ s.length := by
 unfold Lib.cut
 split
 ·simp
  omega
 ·simp
theorem vJ (f : Tx.Bs) (sv : Int) (l : Tx.Bs) : (jQ f sv l).length ≤ 2 * f.length + l.length := by
 have h1 := OH f Sx.pct
 have h2 := OH f Sx.slash
 unfold jQ
 split
 ·simp; omega
 ·split <;> omega
structure EB (s : Ms) : Prop where
 f : s.f.name.length ≤ 3000000
 ch : ∀ c ∈ s.ch, c.lc.name.length ≤ 3000000
theorem Qh {at_ : Int} {l : Tb.Lc} {s : Ms} (h : EB s) (hl : l.name.length ≤ 3000000) : EB (nZ at_ l s) := by
 unfold nZ
 split
 ·exact ⟨hl, h.ch⟩
 ·split
  ·exact h
  ·refine ⟨h.f, fun c hc => ?_⟩
   rcases List.mem_append.1 hc with hc | hc
   ·exact h.ch c hc
   ·rw [List.mem_singleton] at hc; subst hc; exact hl
theorem Gf {x : Sx.Er} (hx : xV x) (f til : Int) : ∀ {l : List Sx.Tm} {s : Ms}, EB s → (∀ t ∈ l, xY t) → EB (jN x f til l s)
 | [], _, h, _ => h
 | t :: r, s, h, ht => by
   rw [lK]
   refine Gf hx f til ?_ (fun u hu => ht u (List.mem_cons_of_mem _ hu))
   split
   ·refine Qh h ?_
    have := vJ x.format t.save t.letter
    have := hx.fmt
    have := (ht t (by simp)).let_
    show (jQ x.format t.save t.letter).length ≤ _
    omega
   ·exact h
theorem Ch {rs : List Sx.Rl} : ∀ {es : List Sx.Er} {f : Int} {l : List Int} {s : Ms}, EB s → (∀ x ∈ es, xV x ∧ ∀ t ∈ kD rs x, xY t) → EB (jm rs f es l s)
 | [], _, _, _, h, _ => h
 | x :: r, f, l, s, h, hx => by
   rw [kP]
   exact Ch (Gf (hx x (by simp)).1 _ _ h (hx x (by simp)).2) (fun y hy => hx y (List.mem_cons_of_mem _ hy))
theorem Am (rs : List Sx.Rl) : ∀ (es : List Sx.Er) (f : Int) (l : List Int) (s : Ms), (jm rs f es l s).ch.length ≤ s.ch.length + es.length * 1001
 | [], _, _, s => by simp [jm]
 | x :: r, f, l, s => by
   rw [kP]
   refine Nat.le_trans (Am rs r _ _ _) ?_
   have h1 := vC x f (yD l) (kD rs x) s
   have h2 := yF rs x
   rw [List.length_cons]
   omega
/- what Compile answers -/
def ry (rs : List Sx.Rl) (z : Sx.Zn) : Ms := jm rs (-62135596800) z.eras (aT z.eras) ⟨lc0, []⟩
def mf (s : Sx.Sr) (xs : List ZV) (nm : Tx.Bs) : Int := if gY s xs nm ≠ 0 then gY s xs nm else mkE (ry s.rules (dJ s xs nm))
def ic (s : Sx.Sr) (xs : List ZV) (nm : Tx.Bs) : Tb.Tbl := if mf s xs nm = 0 then ⟨(ry s.rules (dJ s xs nm)).f, (ry s.rules (dJ s xs nm)).ch⟩ else ⟨lc0, []⟩
theorem SC {s : Sx.Sr} {x : Sx.Er} (ok : Sx.EH s) (hx : Sx.EA x) : xV x ∧ ∀ t ∈ kD s.rules x, xY t := by
 have f := hx.fmt
 unfold Sx.cZ at f
 simp at f
 have := hx.sh0; have := hx.sh1; have := hx.sv0; have := hx.sv1
 refine ⟨⟨by have := f.1.2; omega, by omega, by omega⟩, fun t ht => ?_⟩
 unfold kD at ht
 rcases List.mem_cons.1 ht with rfl | ht
 ·exact ⟨by simp, by dsimp only; omega, by dsimp only; omega⟩
 ·split at ht
  ·cases ht
  ·obtain ⟨r, hr, e1, e2⟩ := Sx.Ad ht
   have hr0 := ok.rule r hr
   have ro := (Sx.xP hr0).save
   refine ⟨?_, by rw [e2]; omega, by rw [e2]; omega⟩
   rw [e1]
   unfold Sx.dz at hr0
   split at hr0
   ·cases hr0
   ·rename_i g
    simp [Sx.dV] at g
    have := g.2.2
    omega
theorem Qq {w : World} {B q : Nat} {v : Value} {l : List Tb.Cg} (h : ma w B v l) (hq : q < B) (a b c d : Value) : ma ((((w.setCell ⟨q, 0, none⟩ a).setCell ⟨q, 1, none⟩ b).setCell ⟨q, 2, none⟩ c).setCell ⟨q, 3, none⟩ d) B v l :=
 ownsRow_setCell_below (ownsRow_setCell_below (ownsRow_setCell_below (ownsRow_setCell_below h (a := ⟨q, 0, none⟩) hq a) (a := ⟨q, 1, none⟩) hq b) (a := ⟨q, 2, none⟩) hq c) (a := ⟨q, 3, none⟩) hq d
theorem rd_stay {α : Type} {z : Nat} {cells : α → List Value} {w w4 w' : World} {M : Nat} {v : Value} {xs : List α} (h : Rd z cells w v xs) (hM : w.heap.size = M) (hb : Below w.heap.size w w4) (hf : MkF (M + 1) M w4 w') : Rd z cells w' v xs := by
 obtain ⟨a, cap, h1, h2⟩ := h
 refine ⟨a, cap, h1, fun hn => ?_⟩
 obtain ⟨b, o, h3, h4, h5⟩ := h2 hn
 refine ⟨b, o, h3, q4N h4 (Nat.le_trans hb.size hf.size), fun i x hx k u hu => ?_⟩
 rw [World.cell?_of_block (w := w4) (hf.low b (by omega) (by omega)), hb.cell (p := ⟨b, _, none⟩) h4]
 exact h5 i x hx k u hu
theorem wF (s : Sx.Sr) (xs : List ZV) (ra za la : Option Addr) (rcap zcap lcap : Nat) (m : Int) (nm : Tx.Bs) (w : World) (h : gG s xs ra za la rcap zcap lcap m w) :
  Calls Tryz.prog 30 #[.agg #[.slice ra s.rules.length rcap, .slice za xs.length zcap, .slice la s.links.length lcap], af nm] w fun e w' => ∃ cv, e = .returned (.tuple #[tbV (ic s xs nm).first cv, .int .i64 (mf s xs nm)]) ∧ ma w' w.heap.size cv (ic s xs nm).ch ∧ Below w.heap.size w w' := by
 obtain ⟨N, hN⟩ : ∃ N, w.heap.size = N := ⟨_, rfl⟩
 obtain ⟨V0, gV0, S0, hb0, sz0⟩ := aR w #[.slice ra s.rules.length rcap, .slice za xs.length zcap, .slice la s.links.length lcap] 26
 obtain ⟨V, gV, T0, hb1, sz1⟩ := aR V0 #[.int .i64 0, .int .i64 0, .string ⟨#[]⟩, .slice none 0 0] 76
 have SX : Hid (ag V N [.slice ra s.rules.length rcap, .slice za xs.length zcap, .slice la s.links.length lcap]) := ah (hN ▸ S0) hb1
 have TX : Hid (ag V (N + 1) [.int .i64 0, .int .i64 0, .string ⟨#[]⟩, .slice none 0 0]) := by have q := T0; rw [sz0, hN] at q; exact q
 have eN1 : V0.heap.size = N + 1 := by omega
 have B : Hid (Below N w V) := by show Below _ _ _; rw [← hN]; exact hb0.trans (hb1.mono (by omega))
 have G := hid (aM (aM h hb0) hb1)
 have gV' : (w.alloc (.cells #[.slice ra s.rules.length rcap, .slice za xs.length zcap, .slice la s.links.length lcap] 26)).alloc (.cells #[.int .i64 0, .int .i64 0, .string ⟨#[]⟩, .slice none 0 0] 76) = V := by rw [gV0]; exact gV
 clear h S0 T0 hb0 hb1 sz0 sz1 gV0 gV
 obtain ⟨F, hF⟩ : ∃ F, gY s xs nm = F := ⟨_, rfl⟩
 obtain ⟨z, hz⟩ : ∃ z, dJ s xs nm = z := ⟨_, rfl⟩
 have CF := Dg s xs ra za la rcap zcap lcap m nm V G.out V (q4B _ _)
 have HF := hid hF
 have HZ := hid hz
 rw [hF, hz] at CF
 have HC := hid CF
 clear CF
 obtain ⟨⟨s0, _⟩, ⟨s1, _⟩, ⟨s2, _⟩, sx⟩ := cp3 SX.out
 go_enter Tryz.func30, Tryz.ntmps30
 simp only [hN]
 go_wp2_with fail
 refine HC.out.mono ?_
 rintro e w1 ⟨v, rfl, hO, hb⟩
 clear HC s0 s1 s2 sx
 have hle : N ≤ V.heap.size := Nat.le_of_lt SX.out.1
 replace B := hid (aL B.out hle hb)
 replace SX := hid (ah SX.out hb)
 replace TX := hid (ah TX.out hb)
 replace G := hid (aM G.out hb)
 have EO := hid (zP hO)
 obtain ⟨ea, ec, rfl⟩ := aF hO
 have hle1 : N ≤ w1.heap.size := Nat.le_of_lt SX.out.1
 obtain ⟨w2, gy, Z0, hb2, sz⟩ := aR w1 #[.string ⟨z.name.toArray⟩, .slice ea z.eras.length ec] 44
 obtain ⟨bZ, hbZ⟩ : ∃ b, w1.heap.size = b := ⟨_, rfl⟩
 rw [hbZ] at Z0
 have Z : Hid (ag w2 bZ [.string ⟨z.name.toArray⟩, .slice ea z.eras.length ec]) := Z0
 replace B := hid (aL B.out hle1 hb2)
 replace SX := hid (ah SX.out hb2)
 replace TX := hid (ah TX.out hb2)
 replace G := hid (aM G.out hb2)
 replace EO := hid (au EO.out hb2)
 clear hO hb hle hle1 hb2 Z0 sz
 obtain ⟨⟨t0, k0⟩, ⟨t1, k1⟩, ⟨t2, k2⟩, ⟨t3, k3⟩, st⟩ := cp4 TX.out
 by_cases hq : F = 0
 case neg =>
  have hq2 : (F == 0) = false := by simp [hq]
  have E1 : Hid (mf s xs nm = F) := by show _ = _; unfold mf; rw [HF.out, if_pos hq]
  have E2 : Hid (ic s xs nm = ⟨lc0, []⟩) := by show _ = _; unfold ic; rw [E1.out, if_neg hq]
  have h1 := hid (show N ≤ N + 1 by omega)
  have h2 := hid (ax (ax (ax (ax B.out h1.out 0 (.int .i64 0)) h1.out 1 (.int .i64 0)) h1.out 2 (.string ⟨#[]⟩)) h1.out 3 (.slice none 0 0))
  clear hF hz
  go_wp2
  refine bodyPost_ret (v := .tuple #[tbV lc0 (.slice none 0 0), .int .i64 F]) (by simp [results, Tryz.results30, go_sem, lc0, *]) rfl ⟨.slice none 0 0, by rw [E1.out, E2.out], by rw [E2.out]; exact lw _ _, h2.out⟩
 subst hq
 obtain ⟨ok, zin, h8, hok⟩ := uX G.out.zv HF.out
 rw [HZ.out] at zin h8 hok
 have FINE := hid (fun x hx => SC ok (hok x hx))
 have H8 := hid h8
 have CE0 := Ol s xs ra za la rcap zcap lcap m nm w2 G.out
 rw [HF.out, HZ.out, if_pos rfl] at CE0
 have HC := hid CE0
 obtain ⟨L, hL⟩ : ∃ L, aT z.eras = L := ⟨_, rfl⟩
 rw [hL] at HC
 have HL := hid hL
 clear CE0 zin h8 hok ok hF hz t0 k0 t1 k1 t2 k2 t3 k3 st hL
 obtain ⟨⟨s0, _⟩, ⟨s1, _⟩, ⟨s2, _⟩, sx⟩ := cp3 SX.out
 go_wp2_with fail
 refine HC.out.mono ?_
 rintro e w3 ⟨v2, rfl, hO, hb⟩
 clear HC s0 s1 s2 sx
 have hle : N ≤ w2.heap.size := Nat.le_of_lt SX.out.1
 replace B := hid (aL B.out hle hb)
 replace SX := hid (ah SX.out hb)
 replace TX := hid (ah TX.out hb)
 replace G := hid (aM G.out hb)
 replace EO := hid (au EO.out hb)
 replace Z := hid (ah Z.out hb)
 have RE := hid (jY hO)
 obtain ⟨la2, lc2, rfl⟩ := aF hO
 have hN3 : N + 1 < w3.heap.size := TX.out.1
 clear hO hb hle gy hbZ
 obtain ⟨M, hM⟩ : ∃ M, w3.heap.size = M := ⟨_, rfl⟩
 obtain ⟨w4, gm, M0, hb4, sz4⟩ := aR w3 #[.int .i64 0, .int .i64 0, .string ⟨#[]⟩, .slice none 0 0, .slice ra s.rules.length rcap] 127
 have TM : IsT w4 M 127 := by rw [← gm, ← hM]; exact DL w3 _ _
 have MK : Mk (M + 1) M ⟨lc0, []⟩ (.slice none 0 0) (.slice ra s.rules.length rcap) w4 := ⟨hM ▸ M0, TM, lw _ _, by omega, by omega⟩
 have CZ := hid (Js s.rules z L m MK (by simp) (fun w' hf => ⟨rd_stay G.out.rules hM hb4 hf, rd_stay EO.out hM hb4 hf, rd_stay RE.out hM hb4 hf⟩) G.out.size.rules ((hb4.cell (p := ⟨0, 0, none⟩) G.out.pos).trans G.out.max) (by omega) H8.out FINE.out)
 have HMK := hid MK
 have B4 : Hid (Below N w w4) := aL B.out (by omega) hb4
 have T4 := hid (ah TX.out hb4)
 have Z4 := hid (ah Z.out hb4)
 obtain ⟨⟨s0, _⟩, ⟨s1, _⟩, ⟨s2, _⟩, sx⟩ := cp3 SX.out
 obtain ⟨⟨z0, _⟩, ⟨z1, _⟩, sz⟩ := cp2 Z4.out
 obtain ⟨R, hR⟩ : ∃ R, jm s.rules (-62135596800) z.eras L ⟨lc0, []⟩ = R := ⟨_, rfl⟩
 rw [hR] at CZ
 have HR : Hid (ry s.rules z = R) := by show _ = _; unfold ry; rw [HL.out]; exact hR
 have NM : Hid (EB R) := by show EB _; rw [← hR]; exact Ch ⟨by decide, by simp⟩ FINE.out
 have RL : R.ch.length ≤ 10000 := by
  rw [← hR]
  have := Am s.rules z.eras (-62135596800) L ⟨lc0, []⟩
  have := H8.out
  simp at *
  omega
 clear M0 TM MK hb4 hR B TX Z G
 go_wp2_with fail
 refine CZ.out.mono ?_
 rintro e w5 ⟨cv, rfl, M5, F5⟩
 have MM := hid M5
 have B5 : Hid (Below N w w5) := ML B4.out (by omega) (by omega) F5
 have T5 : Hid (ag w5 (N + 1) [.int .i64 0, .int .i64 0, .string ⟨#[]⟩, .slice none 0 0]) := jw T4.out (q4N T4.out.1 F5.size) (F5.low _ (by omega) (by omega))
 have CC := hid (F8 M5 RL (by have := NM.out.f; unfold maxLen; omega) (fun c hc => by have := NM.out.ch c hc; unfold maxLen; omega))
 clear CZ HMK B4 T4 Z4 z0 z1 sz s0 s1 s2 sx M5 F5 SX
 go_wp2_with fail
 refine CC.out.mono ?_
 rintro e w6 ⟨rfl, hb⟩
 replace MM := hid (gJ MM.out hb)
 replace T5 := hid (ah T5.out hb)
 have hle : N ≤ w5.heap.size := by have := MM.out.mB; have := B5.out.size; omega
 replace B5 := hid (aL B5.out hle hb)
 clear hb hle CC
 obtain ⟨E, hE⟩ : ∃ E, mkE R = E := ⟨_, rfl⟩
 rw [hE]
 have E1 : Hid (mf s xs nm = E) := by show _ = _; unfold mf; rw [HF.out, if_neg (by simp), HZ.out, HR.out, hE]
 have E2 : Hid (ic s xs nm = if E = 0 then ⟨R.f, R.ch⟩ else ⟨lc0, []⟩) := by show _ = _; unfold ic; rw [E1.out, HZ.out, HR.out]
 obtain ⟨⟨t0, k0⟩, ⟨t1, k1⟩, ⟨t2, k2⟩, ⟨t3, k3⟩, st⟩ := cp4 T5.out
 have h1 := hid (show N ≤ N + 1 by omega)
 clear hE
 by_cases hq : E = 0
 case neg =>
  have hq2 : (E == 0) = false := by simp [hq]
  have E3 : Hid (ic s xs nm = ⟨lc0, []⟩) := by show _ = _; rw [E2.out, if_neg hq]
  have h2 := hid (ax (ax (ax (ax B5.out h1.out 0 (.int .i64 0)) h1.out 1 (.int .i64 0)) h1.out 2 (.string ⟨#[]⟩)) h1.out 3 (.slice none 0 0))
  go_wp2
  refine bodyPost_ret (v := .tuple #[tbV lc0 (.slice none 0 0), .int .i64 E]) (by simp [results, Tryz.results30, go_sem, lc0, *]) rfl ⟨.slice none 0 0, by rw [E1.out, E3.out], by rw [E3.out]; exact lw _ _, h2.out⟩
 subst hq
 obtain ⟨f, ch⟩ := R
 dsimp only at RL
 obtain ⟨ca, cc, rfl⟩ := aF MM.out.own
 obtain ⟨⟨m0, _⟩, ⟨m1, _⟩, ⟨m2, _⟩, ⟨m3, _⟩, -⟩ := cp4 MM.out.box
 dsimp only at m0 m1 m2 m3
 have sm := MM.out.box.1
 have hne : ¬ M = N + 1 := by omega
 have E3 : Hid (ic s xs nm = ⟨f, ch⟩) := by show _ = _; rw [E2.out, if_pos rfl]
 have h2 := hid (ax (ax (ax (ax B5.out h1.out 0 (.int .i64 f.shift)) h1.out 1 (.int .i64 f.save)) h1.out 2 (.string ⟨f.name.toArray⟩)) h1.out 3 (.slice ca ch.length cc))
 have OO := hid (Qq MM.out.own (show N + 1 < M + 1 by omega) (.int .i64 f.shift) (.int .i64 f.save) (.string ⟨f.name.toArray⟩) (.slice ca ch.length cc))
 clear E2 MM
 go_wp2
 refine bodyPost_ret (v := .tuple #[tbV f (.slice ca ch.length cc), .int .i64 0]) (by simp [results, Tryz.results30, go_sem, *]) rfl ⟨.slice ca ch.length cc, by rw [E1.out, E3.out], by rw [E3.out]; exact dC OO.out (by omega), h2.out⟩
end
namespace Tb
/- each later than what is ahead, and other than it -/
def Stp (was : Lc) (p : Int) : List Cg → Prop
 | [] => True
 | c :: r => p < c.at_ ∧ ¬ c.lc = was ∧ Stp c.lc c.at_ r
theorem zq (c : Cg) (n : Int) : ∀ (l : List Cg) (o : Lc), iY o n (l ++ [c]) = if c.at_ ≤ n then c.lc else iY o n l
 | [], o => rfl
 | d :: r, o => zq c n r _
theorem sD (o : Lc) (c : Cg) (r : List Cg) : kF o (c :: r) = kF c.lc r := by
 unfold kF
 cases r with
 | nil => rfl
 | cons d r => rw [List.getLast?_cons_cons]; cases h : (d :: r).getLast? with
   | none => simp at h
   | some x => rfl
theorem zm (n : Int) : ∀ (l : List Cg) (o : Lc), (∀ c ∈ l, c.at_ ≤ n) → iY o n l = kF o l
 | [], o, _ => rfl
 | c :: r, o, h => by
   rw [sD]
   show iY (if c.at_ ≤ n then c.lc else o) n r = _
   rw [if_pos (h c (by simp)), zm n r _ fun d hd => h d (List.mem_cons_of_mem _ hd)]
theorem gK : ∀ {l : List Cg} {o : Lc} {p : Int}, Stp o p l → ∀ c ∈ l, p < c.at_
 | c :: r, o, p, h, d, hd => by
   rcases List.mem_cons.1 hd with rfl | hd
   ·exact h.1
   ·exact Int.lt_trans h.1 (gK h.2.2 d hd)
theorem Hg {c : Cg} : ∀ {l : List Cg} {o : Lc} {p : Int}, Stp o p l → (∀ d ∈ l, d.at_ < c.at_) → p < c.at_ → ¬ c.lc = kF o l → Stp o p (l ++ [c])
 | [], o, p, _, _, h, hn => ⟨h, hn, trivial⟩
 | d :: r, o, p, hs, hl, h, hn => ⟨hs.1, hs.2.1, Hg hs.2.2 (fun e he => hl e (List.mem_cons_of_mem _ he)) (hl d (by simp)) (by rw [← sD]; exact hn)⟩
end Tb
section
open Go.RowKit Go.Shelf
/- a maker's state says what g says, from the first time on up to q; of at most k things put -/
structure Rep (g : Int → Tb.Lc) (q : Int) (k : Nat) (s : Ms) : Prop where
 none : q ≤ -62135596800 → s.ch = []
 some : -62135596800 < q → s.ch.length + 1 ≤ k
 look : ∀ a, -62135596800 ≤ a → a < q → Tb.iY s.f a s.ch = g a
 stp : Tb.Stp s.f (-62135596800) s.ch
 til : ∀ c ∈ s.ch, c.at_ < q
theorem GI {g : Int → Tb.Lc} {q : Int} {k j : Nat} {s : Ms} (h : Rep g q k s) (hj : k ≤ j) : Rep g q j s := ⟨h.none, fun a => Nat.le_trans (h.some a) hj, h.look, h.stp, h.til⟩
theorem vP (g : Int → Tb.Lc) {q : Int} (k : Nat) {s : Ms} (hq : q ≤ -62135596800) (hs : s.ch = []) : Rep g q k s :=
 ⟨fun _ => hs, fun h => by omega, fun a _ _ => by omega, by rw [hs]; trivial, by rw [hs]; intro c hc; cases hc⟩
theorem Lp {g : Int → Tb.Lc} {q e : Int} {k : Nat} {s : Ms} {l : Tb.Lc} (h : Rep g q k s) (h0 : -62135596800 ≤ q) (he : q < e) (hg : ∀ a, q ≤ a → a < e → g a = l) : Rep g e (k + 1) (nZ q l s) := by
 unfold nZ
 by_cases c1 : q = -62135596800
 ·rw [if_pos c1]
  have hn := h.none (by omega)
  refine ⟨fun w => by omega, fun _ => by dsimp only; rw [hn]; simp, fun a h1 h2 => ?_, ?_, ?_⟩
  ·dsimp only; rw [hn]; exact (hg a (by omega) h2).symm
  ·dsimp only; rw [hn]; trivial
  ·dsimp only; rw [hn]; intro c hc; cases hc
 rw [if_neg c1]
 have hs := h.some (by omega)
 by_cases c2 : l = kF s.f s.ch
 ·rw [if_pos c2]
  refine ⟨fun w => by omega, fun _ => by omega, fun a h1 h2 => ?_, h.stp, fun c hc => Int.lt_trans (h.til c hc) he⟩
  by_cases w : a < q
  ·exact h.look a h1 w
  ·rw [Tb.zm a s.ch s.f fun c hc => by have := h.til c hc; omega, hg a (by omega) h2, c2]
 ·rw [if_neg c2]
  refine ⟨fun w => by omega, fun _ => by dsimp only; rw [List.length_append]; simp; omega, fun a h1 h2 => ?_, Tb.Hg h.stp (fun d hd => h.til d hd) (by dsimp only; omega) c2, fun c hc => ?_⟩
  ·dsimp only
   rw [Tb.zq]
   dsimp only
   by_cases w : q ≤ a
   ·rw [if_pos w, hg a w h2]
   ·rw [if_neg w]; exact h.look a h1 (by omega)
  ·rcases List.mem_append.1 hc with hc | hc
   ·exact Int.lt_trans (h.til c hc) he
   ·rw [List.mem_singleton] at hc; subst hc; exact he
/- the last of times that is no later -/
def pF (a : Int) (t : Sx.Tm) (l : List Sx.Tm) : Sx.Tm := l.foldl (fun b x => if x.at_ ≤ a then x else b) t
theorem Bu (a : Int) : ∀ (l : List Sx.Tm) (t : Sx.Tm), (∀ u ∈ l, a < u.at_) → pF a t l = t
 | [], t, _ => rfl
 | u :: r, t, h => by
   show pF a (if u.at_ ≤ a then u else t) r = t
   rw [if_neg (by have := h u (by simp); omega)]
   exact Bu a r t fun v hv => h v (List.mem_cons_of_mem _ hv)
theorem vk {a : Int} {t u : Sx.Tm} {r : List Sx.Tm} (h : u.at_ ≤ a) : pF a t (u :: r) = pF a u r := by
 show pF a (if u.at_ ≤ a then u else t) r = _
 rw [if_pos h]
theorem wG (a : Int) : ∀ (l : List Sx.Tm) (t v : Sx.Tm), pF a t l = pF a v l ∨ (pF a t l = t ∧ pF a v l = v)
 | [], t, v => .inr ⟨rfl, rfl⟩
 | u :: r, t, v => by
   by_cases h : u.at_ ≤ a
   ·rw [vk h, vk h]; exact .inl rfl
   ·have e (w : Sx.Tm) : pF a w (u :: r) = pF a w r := by show pF a (if u.at_ ≤ a then u else w) r = _; rw [if_neg h]
    rw [e, e]; exact wG a r t v
theorem Mt (a : Int) (l : List Sx.Tm) : lastT (fun t => decide (t.at_ ≤ a)) l = pF a LA l := by
 unfold lastT pF
 have : (fun b x : Sx.Tm => if decide (x.at_ ≤ a) = true then x else b) = fun b x => if x.at_ ≤ a then x else b := by funext b x; simp
 rw [this]
theorem Eb {g : Int → Tb.Lc} {x : Sx.Er} {frm til : Int} : ∀ (r : List Sx.Tm) (t : Sx.Tm) (k : Nat) (s : Ms), (t :: r).Pairwise (fun u v => u.at_ < v.at_) → -62135596800 ≤ t.at_ →
  (∀ a, -62135596800 ≤ a → frm ≤ a → t.at_ ≤ a → a < til → g a = gW x (pF a t r)) → Rep g (min til (max frm t.at_)) k s → Rep g til (k + (t :: r).length) (jN x frm til (t :: r) s)
 | [], t, k, s, hs, h0, hg, h => by
   rw [lK]
   show Rep g til (k + 1) (if max frm t.at_ < til then nZ (max frm t.at_) (gW x t) s else s)
   by_cases q : max frm t.at_ < til
   ·rw [if_pos q]
    rw [show min til (max frm t.at_) = max frm t.at_ by omega] at h
    exact Lp h (by omega) q fun a h1 h2 => hg a (by omega) (by omega) (by omega) h2
   ·rw [if_neg q]
    rw [show min til (max frm t.at_) = til by omega] at h
    exact GI h (by omega)
 | u :: r, t, k, s, hs, h0, hg, h => by
   rw [lK]
   have htu : t.at_ < u.at_ := (List.pairwise_cons.1 hs).1 u (by simp)
   have hs' := (List.pairwise_cons.1 hs).2
   have G' : ∀ a, -62135596800 ≤ a → frm ≤ a → u.at_ ≤ a → a < til → g a = gW x (pF a u r) := fun a h1 h2 h3 h4 => by
    rw [hg a h1 h2 (by omega) h4, vk h3]
   have hk : k + (t :: u :: r).length = (k + 1) + (u :: r).length := by simp; omega
   rw [hk]
   refine Eb r u (k + 1) _ hs' (by omega) G' ?_
   show Rep g (min til (max frm u.at_)) (k + 1) (if max frm t.at_ < min til u.at_ then nZ (max frm t.at_) (gW x t) s else s)
   by_cases q : max frm t.at_ < min til u.at_
   ·rw [if_pos q]
    rw [show min til (max frm t.at_) = max frm t.at_ by omega] at h
    rw [show min til (max frm u.at_) = min til u.at_ by omega]
    refine Lp h (by omega) q fun a h1 h2 => ?_
    rw [hg a (by omega) (by omega) (by omega) (by omega), Bu a (u :: r) t]
    intro v hv
    rcases List.mem_cons.1 hv with rfl | hv
    ·omega
    ·have := (List.pairwise_cons.1 hs').1 v hv; omega
   ·rw [if_neg q]
    rw [show min til (max frm t.at_) = min til (max frm u.at_) by omega] at h
    exact GI h (by omega)
/- of an era: its times rise, and with rules nothing is saved of its own -/
structure EraT (rs : List Sx.Rl) (x : Sx.Er) : Prop where
 rise : (kD rs x).Pairwise (fun u v => u.at_ < v.at_)
 nil : x.rules ≠ [] → x.save = 0
theorem Cw {rs : List Sx.Rl} {x : Sx.Er} (h : EraT rs x) (a : Int) : gW x (iR rs x a) = gW x (pF a ⟨-62135596800, x.save, []⟩ (if x.rules = [] then [] else Sx.times rs x.rules x.shift)) := by
 unfold iR
 by_cases q : x.rules = []
 ·rw [if_pos q, if_pos q]; rfl
 ·rw [if_neg q, if_neg q, Mt]
  rcases wG a (Sx.times rs x.rules x.shift) LA ⟨-62135596800, x.save, []⟩ with w | ⟨w1, w2⟩
  ·rw [w]
  ·rw [w1, w2, h.nil q]; rfl
def L9 (rs : List Sx.Rl) : List Sx.Er → Nat
 | [] => 0
 | x :: r => (kD rs x).length + L9 rs r
theorem nV {rs : List Sx.Rl} {z : Sx.Zn} {x : Sx.Er} {a : Int} (h : fM z a = x) : aI rs z a = gW x (iR rs x a) := by unfold aI; rw [h]; rfl
theorem GJ {rs : List Sx.Rl} {g : Int → Tb.Lc} : ∀ (es : List Sx.Er) (f : Int) (k : Nat) (s : Ms), lD es → bX (aT es) = true → (∀ x ∈ es, EraT rs x) → (f ≤ -62135596800 ∨ f ≤ yD (aT es)) →
  (∀ a, -62135596800 ≤ a → f ≤ a → a < 253402300800 → g a = aI rs ⟨[], es⟩ a) → Rep g f k s → Rep g 253402300800 (k + L9 rs es) (jm rs f es (aT es) s)
 | [], _, _, _, h, _, _, _, _, _ => h.elim
 | [x], f, k, s, ho, hr, he, hf, hg, h => by
   have hx : x.opn = true := ho
   have e0 : aT [x] = [] := by simp [aT, hx]
   rw [e0] at hf ⊢
   rw [kP]
   show Rep g 253402300800 _ (jN x f 253402300800 (kD rs x) s)
   have hE := he x (by simp)
   show Rep g 253402300800 (k + ((kD rs x).length + 0)) _
   refine Eb _ _ k s hE.rise (Int.le_refl _) (fun a h1 h2 h3 h4 => ?_) ?_
   ·rw [hg a h1 h2 h4, nV (x := x) (by simp [fM, List.find?_cons, hx]), Cw hE]
   ·by_cases q : f ≤ -62135596800
    ·exact vP _ _ (by dsimp only; omega) (h.none q)
    ·rcases hf with hf | hf
     ·exact absurd hf q
     ·rw [show min 253402300800 (max f (-62135596800)) = f by have : yD [] = 253402300800 := rfl; omega]; exact h
 | x :: y :: r, f, k, s, ho, hr, he, hf, hg, h => by
   have e0 : aT (x :: y :: r) = dM x :: aT (y :: r) := by simp [aT, List.filter_cons, ho.1]
   rw [e0] at hr hf ⊢
   rw [kP]
   have hE := he x (by simp)
   have eT : yD (dM x :: aT (y :: r)) = min 253402300800 (dM x) := rfl
   rw [eT] at hf ⊢
   show Rep g 253402300800 _ (jm rs (min 253402300800 (dM x)) (y :: r) (aT (y :: r)) _)
   have hk : k + L9 rs (x :: y :: r) = (k + (kD rs x).length) + L9 rs (y :: r) := by show k + ((kD rs x).length + L9 rs (y :: r)) = _; omega
   rw [hk]
   have hr' : bX (aT (y :: r)) = true ∧ dM x ≤ yD (aT (y :: r)) ∨ bX (aT (y :: r)) = true ∧ 253402300800 ≤ yD (aT (y :: r)) := by
    cases hc : aT (y :: r) with
    | nil => exact .inr ⟨rfl, Int.le_refl _⟩
    | cons n l =>
      rw [hc] at hr
      simp [bX] at hr
      by_cases q : dM x ≤ 253402300800
      ·refine .inl ⟨hr.2, ?_⟩
       show _ ≤ min 253402300800 n
       omega
      ·refine .inr ⟨hr.2, ?_⟩
       show _ ≤ min 253402300800 n
       omega
   refine GJ (y :: r) _ _ _ ho.2 (hr'.elim (·.1) (·.1)) (fun z hz => he z (List.mem_cons_of_mem _ hz)) (.inr (by rcases hr' with q | q <;> omega)) (fun a h1 h2 h3 => ?_) ?_
   ·rw [hg a h1 (by
     rcases hf with q | q <;> omega) h3]
    have e : fM ⟨[], x :: y :: r⟩ a = fM ⟨[], y :: r⟩ a := by
     have hb : (x.opn || decide (a < dM x)) = false := by simp [ho.1]; omega
     unfold fM; rw [List.find?_cons, hb]
    rw [nV e, nV rfl]
   ·refine Eb _ _ k s hE.rise (Int.le_refl _) (fun a h1 h2 h3 h4 => ?_) ?_
    ·rw [hg a h1 h2 (by omega), nV (x := x) ?_, Cw hE]
     have hb : (x.opn || decide (a < dM x)) = true := by simp [ho.1]; omega
     unfold fM; rw [List.find?_cons, hb]; rfl
    ·by_cases q : f ≤ -62135596800
     ·exact vP _ _ (by dsimp only; omega) (h.none q)
     ·rcases hf with hf | hf
      ·exact absurd hf q
      ·dsimp only
       rw [show min (min 253402300800 (dM x)) (max f (-62135596800)) = f by omega]; exact h
end
namespace Sx
theorem Kz {rs : List Rl} {name : Tx.Bs} (h : ∀ r ∈ rs, fV r) : ∀ t ∈ turnsOf rs name, -3456000000 ≤ t.stands := by
 intro t ht
 simp only [turnsOf, List.mem_flatMap, List.mem_filter, ko, List.mem_map, List.mem_range] at ht
 obtain ⟨r, ⟨hr, _⟩, k, hk, rfl⟩ := ht
 have ok := h r hr
 have h1 := ok.frm
 have h2 := ok.le
 have h3 := ok.to
 have h4 := ok.at_
 simp only [many] at hk
 have b := (uA ok (y := r.frm + (k : Int)) (by omega) (by omega)).2
 simp only [gU]
 omega
theorem Km {rs : List Rl} {name : Tx.Bs} {shift : Int} {x : Tm} (h : aY rs name shift = 0) (hx : x ∈ times rs name shift) : -62135596800 < x.at_ := by
 obtain ⟨i, hx⟩ := List.mem_iff_getElem?.1 hx
 have k := uP h
 have ok := (src_ok k.src).2
 rw [k.is] at hx
 have hl : i < (iM (turnsOf rs name)).length := by rw [← ky shift _ 0]; exact (q4L.1 hx).1
 have qa : (iM (turnsOf rs name))[i]? = some (iM (turnsOf rs name))[i] := q4G hl
 rw [kw shift _ 0 i _ qa] at hx
 simp at hx
 subst hx
 have p := D6 (zi (sU (name := name) fun r hr => (ok r hr).save)) i
 have b := Et (t := (iM (turnsOf rs name))[i]) k.s1 k.s2 p.1 p.2
 have c := Kz ok (name := name) (iM (turnsOf rs name))[i] ((jW _).mem_iff.1 (List.getElem_mem hl))
 omega
theorem RZ {l : List Tm} (h : ∀ (i : Nat) x y, l[i]? = some x → l[i + 1]? = some y → x.at_ < y.at_) : l.Pairwise (fun u v => u.at_ < v.at_) := by
 induction l with
 | nil => exact .nil
 | cons a r ih =>
   have ih := ih fun i x y h1 h2 => h (i + 1) x y (by simpa using h1) (by simpa using h2)
   refine List.pairwise_cons.2 ⟨?_, ih⟩
   cases r with
   | nil => intro b hb; cases hb
   | cons b r =>
     have hab := h 0 a b rfl rfl
     intro c hc
     rcases List.mem_cons.1 hc with rfl | hc
     ·exact hab
     ·have := (List.pairwise_cons.1 ih).1 c hc; omega
theorem Rw {x : Er} {b : Bool} (h : dS x b = 0) : x.rules ≠ [] → x.save = 0 := by
 unfold dS at h
 split at h
 ·cases h
 split at h
 ·cases h
 split at h
 ·cases h
 split at h
 ·cases h
 rename_i q
 intro hr
 have : x.rules.isEmpty = false := by simpa using hr
 rw [this] at q
 simpa using q
end Sx
section
open Go.RowKit Go.Shelf
theorem yU {s : Sx.Sr} {xs : List ZV} {nm : Tx.Bs} (hx : xs.map ZV.z = s.zones) (h : gY s xs nm = 0) : Sx.EH s ∧ dJ s xs nm ∈ s.zones ∧ (∀ e ∈ (dJ s xs nm).eras, e ∈ aQ xs) ∧ Sx.dm (dJ s xs nm) = 0 ∧ bX (aT (dJ s xs nm).eras) = true := by
 obtain ⟨h1, h2⟩ := qR h
 have ok := Sx.ow (ll h1 0 (by omega))
 rw [Ap h]
 obtain ⟨m1, m2⟩ := LB h2
 have hm : (lh xs (eY s.links nm)).z ∈ s.zones := by rw [← hx]; exact List.mem_map_of_mem m1
 refine ⟨ok, hm, fun e he => OX h2 he, ok.zone _ hm, ?_⟩
 have c4 : kV xs = 0 := ll h1 4 (by omega)
 unfold kV at c4
 split at c4
 ·cases c4
 rename_i q
 simp at q
 exact q _ m1
theorem Rv {s : Sx.Sr} {xs : List ZV} {nm : Tx.Bs} (hx : xs.map ZV.z = s.zones) (h : gY s xs nm = 0) {x : Sx.Er} (hm : x ∈ (dJ s xs nm).eras) : EraT s.rules x := by
 obtain ⟨ok, _, he, hz, _⟩ := yU hx h
 refine ⟨?_, ?_⟩
 ·unfold kD
  by_cases q : x.rules = []
  ·rw [if_pos q]; exact List.pairwise_cons.2 ⟨by simp, .nil⟩
  ·rw [if_neg q]
   have ht := xn (qR h).1 (he x hm) q
   exact List.pairwise_cons.2 ⟨fun t w => Sx.Km ht w, Sx.RZ fun i a b h1 h2 => Sx.Si ht h1 h2⟩
 ·unfold Sx.dm at hz
  split at hz
  ·cases hz
  obtain ⟨b, hb⟩ := Sx.tV hz x hm
  exact Sx.Rw hb
theorem OD {s : Sx.Sr} {xs : List ZV} {nm : Tx.Bs} (hx : xs.map ZV.z = s.zones) (h : gY s xs nm = 0) : Rep (aI s.rules (dJ s xs nm)) 253402300800 (L9 s.rules (dJ s xs nm).eras) (ry s.rules (dJ s xs nm)) := by
 obtain ⟨ok, _, he, hz, hr⟩ := yU hx h
 have := GJ (rs := s.rules) (g := aI s.rules (dJ s xs nm)) (dJ s xs nm).eras (-62135596800) 0 ⟨lc0, []⟩ (nU hz) hr (fun x hm => Rv hx h hm) (.inl (Int.le_refl _)) (fun a _ _ _ => rfl) (vP _ _ (Int.le_refl _) rfl)
 rw [Nat.zero_add] at this
 exact this
end
namespace Tb
/- at each time at which something may be other: is it? -/
def dD (g : Int → Lc) : Lc → List Int → List Cg
 | _, [] => []
 | was, a :: r => if a ≤ least ∨ most < a then dD g was r else if g a = was then dD g was r else ⟨a, g a⟩ :: dD g (g a) r
theorem oC (g : Int → Lc) (a : Int) : ∀ (l : List Int) (was : Lc), dD g was (l ++ [a]) = dD g was l ++ (if a ≤ least ∨ most < a then [] else if g a = (kF was (dD g was l)) then [] else [⟨a, g a⟩])
 | [], was => by simp only [List.nil_append, dD]; rfl
 | b :: r, was => by
   show (if b ≤ least ∨ most < b then dD g was (r ++ [a]) else if g b = was then dD g was (r ++ [a]) else ⟨b, g b⟩ :: dD g (g b) (r ++ [a])) = (if b ≤ least ∨ most < b then dD g was r else if g b = was then dD g was r else ⟨b, g b⟩ :: dD g (g b) r) ++ _
   have e0 : dD g was (b :: r) = (if b ≤ least ∨ most < b then dD g was r else if g b = was then dD g was r else ⟨b, g b⟩ :: dD g (g b) r) := rfl
   rw [e0]
   by_cases h1 : b ≤ least ∨ most < b
   ·rw [if_pos h1, if_pos h1]; exact oC g a r was
   ·rw [if_neg h1, if_neg h1]
    by_cases h2 : g b = was
    ·rw [if_pos h2, if_pos h2]; exact oC g a r was
    ·rw [if_neg h2, if_neg h2, oC g a r (g b), sD]; rfl
theorem Cz (g : Int → Lc) : ∀ (l : List Int) (was : Lc) (c : Cg), c ∈ dD g was l → c.at_ ∈ l ∧ c.lc = g c.at_ ∧ least < c.at_ ∧ c.at_ ≤ most
 | [], _, c, h => by cases h
 | a :: r, was, c, h => by
   have e : dD g was (a :: r) = (if a ≤ least ∨ most < a then dD g was r else if g a = was then dD g was r else ⟨a, g a⟩ :: dD g (g a) r) := rfl
   rw [e] at h
   have up : ∀ u, c ∈ dD g u r → c.at_ ∈ a :: r ∧ c.lc = g c.at_ ∧ least < c.at_ ∧ c.at_ ≤ most := fun u w => by
    obtain ⟨h1, h2⟩ := Cz g r u c w
    exact ⟨List.mem_cons_of_mem _ h1, h2⟩
   split at h
   ·exact up _ h
   ·rename_i q
    split at h
    ·exact up _ h
    ·rcases List.mem_cons.1 h with rfl | h
     ·exact ⟨by simp, rfl, by dsimp only; omega, by dsimp only; omega⟩
     ·exact up _ h
/- it says what g says -/
theorem ek {k : Int} : ∀ (r : List Cg) (u : Lc), (∀ d ∈ r, k < d.at_) → iY u k r = u
 | [], u, _ => rfl
 | d :: r, u, h => by
   show iY (if d.at_ ≤ k then d.lc else u) k r = u
   rw [if_neg (by have := h d (by simp); omega)]
   exact ek r u fun e he => h e (List.mem_cons_of_mem _ he)
theorem zZ {g : Int → Lc} : ∀ (l : List Int) (p : Int), l.Pairwise (· ≤ ·) → least ≤ p → p ≤ most → (∀ a ∈ l, a ≤ least ∨ p ≤ a) →
  (∀ b a, p ≤ b → b ≤ a → a ≤ most → (∀ c ∈ l, ¬ (b < c ∧ c ≤ a)) → g b = g a) →
  Stp (g p) p (dD g (g p) l) ∧ ∀ n, p ≤ n → n ≤ most → iY (g p) n (dD g (g p) l) = g n
 | [], p, _, _, _, _, H => ⟨trivial, fun n h1 h2 => H p n (Int.le_refl _) h1 h2 fun c hc => by cases hc⟩
 | a :: r, p, hs, h0, hm, hp, H => by
   obtain ⟨s1, s2⟩ := List.pairwise_cons.1 hs
   have e : dD g (g p) (a :: r) = (if a ≤ least ∨ most < a then dD g (g p) r else if g a = g p then dD g (g p) r else ⟨a, g a⟩ :: dD g (g a) r) := rfl
   rw [e]
   by_cases h1 : a ≤ least ∨ most < a
   ·rw [if_pos h1]
    refine zZ r p s2 h0 hm (fun c hc => hp c (List.mem_cons_of_mem _ hc)) fun b c hb hbc hc hn => H b c hb hbc hc fun d hd w => ?_
    rcases List.mem_cons.1 hd with rfl | hd
    ·omega
    ·exact hn d hd w
   ·rw [if_neg h1]
    have hpa : p ≤ a := by rcases hp a (by simp) with q | q <;> omega
    have IH := zZ (g := g) r a s2 (by omega) (by omega) (fun c hc => .inr (s1 c hc)) fun b c hb hbc hc hn => H b c (by omega) hbc hc fun d hd w => by
     rcases List.mem_cons.1 hd with rfl | hd
     ·omega
     ·exact hn d hd w
    have early : ∀ n, p ≤ n → n < a → g p = g n := fun n h2 h3 => H p n (Int.le_refl _) h2 (by omega) fun c hc w => by
     rcases List.mem_cons.1 hc with rfl | hc
     ·omega
     ·have := s1 c hc; omega
    by_cases h2 : g a = g p
    ·rw [if_pos h2]
     rw [h2] at IH
     obtain ⟨i1, i2⟩ := IH
     refine ⟨?_, fun n h3 h4 => ?_⟩
     ·have low : ∀ {l : List Cg} {o : Lc}, Stp o a l → Stp o p l := by
       intro l o h
       cases l with
       | nil => trivial
       | cons c r => exact ⟨by have := h.1; omega, h.2⟩
      exact low i1
     ·by_cases w : a ≤ n
      ·exact i2 n w h4
      ·rw [ek _ _ fun d hd => by have := gK i1 d hd; omega]
       exact early n h3 (by omega)
    ·rw [if_neg h2]
     obtain ⟨i1, i2⟩ := IH
     have hlt : p < a := by
      rcases Int.lt_or_eq_of_le hpa with q | q
      ·exact q
      ·rw [q] at h2; exact absurd rfl h2
     refine ⟨⟨hlt, h2, i1⟩, fun n h3 h4 => ?_⟩
     show iY (if a ≤ n then g a else g p) n _ = g n
     by_cases w : a ≤ n
     ·rw [if_pos w]; exact i2 n w h4
     ·rw [if_neg w, ek _ _ fun d hd => by have := gK i1 d hd; omega]
      exact early n h3 (by omega)
/- there is one such table alone -/
theorem Lr : ∀ {l k : List Cg} {o : Lc} {p : Int}, Stp o p l → Stp o p k → (∀ c ∈ l, c.at_ ≤ most) → (∀ c ∈ k, c.at_ ≤ most) → (∀ n, p ≤ n → n ≤ most → iY o n l = iY o n k) → l = k
 | [], [], _, _, _, _, _, _, _ => rfl
 | [], c :: r, o, p, _, h2, _, m2, H => by
   have := H c.at_ (Int.le_of_lt h2.1) (m2 c (by simp))
   rw [show iY o c.at_ (c :: r) = iY (if c.at_ ≤ c.at_ then c.lc else o) c.at_ r from rfl, if_pos (Int.le_refl _), ek _ _ (gK h2.2.2)] at this
   exact absurd this.symm h2.2.1
 | c :: r, [], o, p, h1, _, m1, _, H => by
   have := H c.at_ (Int.le_of_lt h1.1) (m1 c (by simp))
   rw [show iY o c.at_ (c :: r) = iY (if c.at_ ≤ c.at_ then c.lc else o) c.at_ r from rfl, if_pos (Int.le_refl _), ek _ _ (gK h1.2.2)] at this
   exact absurd this h1.2.1
 | c :: r, d :: s, o, p, h1, h2, m1, m2, H => by
   have c1 := m1 c (by simp)
   have d1 := m2 d (by simp)
   have L : ∀ (x : Cg) (t : List Cg) (n : Int), iY o n (x :: t) = iY (if x.at_ ≤ n then x.lc else o) n t := fun _ _ _ => rfl
   have same : c.at_ = d.at_ := by
    rcases Int.lt_trichotomy c.at_ d.at_ with q | q | q
    ·have := H c.at_ (Int.le_of_lt h1.1) c1
     rw [L, L, if_pos (Int.le_refl _), ek _ _ (gK h1.2.2), if_neg (by omega), ek _ _ (fun e he => by have := gK h2.2.2 e he; omega)] at this
     exact absurd this h1.2.1
    ·exact q
    ·have := H d.at_ (Int.le_of_lt h2.1) d1
     rw [L, L, if_pos (show d.at_ ≤ d.at_ from Int.le_refl _), ek s _ (gK h2.2.2), if_neg (by omega), ek _ _ (fun e he => by have := gK h1.2.2 e he; omega)] at this
     exact absurd this.symm h2.2.1
   have lcs : c.lc = d.lc := by
    have := H c.at_ (Int.le_of_lt h1.1) c1
    rw [L, L, if_pos (Int.le_refl _), ek _ _ (gK h1.2.2), if_pos (by omega), ek _ _ (fun e he => by have := gK h2.2.2 e he; omega)] at this
    exact this
   have hcd : c = d := by
    obtain ⟨a, b⟩ := c
    obtain ⟨a', b'⟩ := d
    simp only at same lcs
    rw [same, lcs]
   subst hcd
   rw [Lr h1.2.2 h2.2.2 (fun e he => m1 e (List.mem_cons_of_mem _ he)) (fun e he => m2 e (List.mem_cons_of_mem _ he)) fun n a b => by
    have := H n (by have := h1.1; omega) b
    rw [L, L, if_pos a] at this
    exact this]
end Tb
section
open Go.RowKit Go.Shelf
/- the times at which something may be other -/
def gF (rs : List Sx.Rl) (x : Sx.Er) : List Sx.Tm := if x.rules = [] then [] else Sx.times rs x.rules x.shift
def ww (rs : List Sx.Rl) (es : List Sx.Er) : List Int := (es.flatMap fun x => (gF rs x).map Sx.Tm.at_) ++ aT es
theorem wK (a : Int) : ∀ (l : List Int), ∃ k, k ≤ l.length ∧ (∀ (j : Nat) (n : Int), j < k → l[j]? = some n → n ≤ a) ∧ (k = l.length ∨ ∃ n, l[k]? = some n ∧ a < n)
 | [] => ⟨0, Nat.le_refl _, fun j n h => absurd h (Nat.not_lt_zero _), .inl rfl⟩
 | b :: r => by
   by_cases h : b ≤ a
   ·obtain ⟨k, h1, h2, h3⟩ := wK a r
    refine ⟨k + 1, by simp; omega, fun j n hj hn => ?_, ?_⟩
    ·cases j with
     | zero => simp at hn; omega
     | succ j => exact h2 j n (by omega) (by simpa using hn)
    ·rcases h3 with h3 | ⟨n, h3, h4⟩
     ·left; simp [h3]
     ·exact .inr ⟨n, by simpa using h3, h4⟩
   ·exact ⟨0, Nat.zero_le _, fun j n h => absurd h (Nat.not_lt_zero _), .inr ⟨b, rfl, by omega⟩⟩
theorem FY {rs : List Sx.Rl} {z : Sx.Zn} (ho : lD z.eras) {b a : Int} (hba : b ≤ a) (hn : ∀ c ∈ ww rs z.eras, ¬ (b < c ∧ c ≤ a)) : aI rs z b = aI rs z a := by
 obtain ⟨k, hk, h1, h2⟩ := wK b (aT z.eras)
 have hl := pI ho
 obtain ⟨x, hx⟩ : ∃ x, z.eras[k]? = some x := ⟨_, q4G (by omega)⟩
 have h3 : k = (aT z.eras).length ∨ ∃ n, (aT z.eras)[k]? = some n ∧ a < n := by
  rcases h2 with h2 | ⟨n, h2, h4⟩
  ·exact .inl h2
  ·have := hn n (List.mem_append_right _ (List.mem_of_getElem? h2))
   exact .inr ⟨n, h2, by omega⟩
 obtain ⟨f1, f2⟩ := He (rs := rs) ho hba hx h1 h3
 by_cases hr : x.rules = []
 ·exact (Kh f1 f2 hr).1
 ·refine Hf hba f1 f2 hr fun i t ht => ?_
  have hm : t.at_ ∈ ww rs z.eras := by
   refine List.mem_append_left _ (List.mem_flatMap.2 ⟨x, List.mem_of_getElem? hx, ?_⟩)
   unfold gF
   rw [if_neg hr]
   exact List.mem_map_of_mem (List.mem_of_getElem? ht)
  exact hn _ hm
/- .. so it is what Compile makes -/
theorem QO {s : Sx.Sr} {xs : List ZV} {nm : Tx.Bs} (hx : xs.map ZV.z = s.zones) (h : gY s xs nm = 0) {l : List Int} (hp : ∀ c, c ∈ l ↔ c ∈ ww s.rules (dJ s xs nm).eras) (hs : l.Pairwise (· ≤ ·)) :
  (ry s.rules (dJ s xs nm)).f = aI s.rules (dJ s xs nm) (-62135596800) ∧ (ry s.rules (dJ s xs nm)).ch = Tb.dD (aI s.rules (dJ s xs nm)) (aI s.rules (dJ s xs nm) (-62135596800)) l := by
 have R := OD hx h
 obtain ⟨ok, _, he, hz, hr⟩ := yU hx h
 have ho := nU hz
 have f0 : (ry s.rules (dJ s xs nm)).f = aI s.rules (dJ s xs nm) (-62135596800) := by
  have := R.look (-62135596800) (Int.le_refl _) (by omega)
  rw [Tb.ek _ _ (Tb.gK R.stp)] at this
  exact this
 refine ⟨f0, ?_⟩
 have hm : Tb.least ≤ Tb.most := by decide
 obtain ⟨t1, t2⟩ := Tb.zZ (g := aI s.rules (dJ s xs nm)) l Tb.least hs (Int.le_refl _) hm (fun a _ => by omega) fun b a h1 h2 h3 h4 => FY ho h2 fun c hc => h4 c ((hp c).2 hc)
 have stp := R.stp
 rw [f0] at stp
 refine Tb.Lr stp t1 (fun c hc => by have := R.til c hc; show c.at_ ≤ 253402300799; omega) (fun c hc => (Tb.Cz _ _ _ c hc).2.2.2) fun n h1 h2 => ?_
 have h1' : (-62135596800 : Int) ≤ n := h1
 have h2' : n ≤ (253402300799 : Int) := h2
 rw [← f0, R.look n h1' (by omega), f0]
 exact (t2 n h1 h2).symm
end
section
open Go.RowKit Go.Shelf
attribute [local go_sem] Oper.semAt_some
attribute [local go_sem ↓] Go.wp_at_zero Go.wp_at_succ

structure TV where
 l : List Sx.Tm
 a : Option Addr
 c : Nat
def uS (p : TV) : List Value := [.slice p.a p.l.length p.c]
def Oo (w : World) (B : Nat) (v : Value) (l : List TV) : Prop := w.ownsRow B 68 1 v l.length (l.flatMap uS)
theorem Nc (w : World) (B : Nat) : Oo w B (.slice none 0 0) [] := World.ownsRow_nil _ _ _ _
theorem Qo {w : World} {B : Nat} {v : Value} {l : List TV} (h : Oo w B v l) : Rd 1 uS w v l := jD (fun _ => rfl) h
theorem Tryz.Ry : (Tryz.prog.info? 68).map (fun i => (i.zero, i.size, i.bytes)) = some (some (.slice none 0 0), 1, 24) := by kernel_rfl
/- what is told, in memory -/
structure xZ (rs : List Sx.Rl) (es : List Sx.Er) (va : Option Addr) (vc : Nat) (ta : Option Addr) (tc : Nat) (ps : List TV) (w : World) : Prop where
 ends : jT w (.slice va (aT es).length vc) (aT es)
 row : Rd 1 uS w (.slice ta ps.length tc) ps
 els : ∀ p ∈ ps, xH w (.slice p.a p.l.length p.c) p.l
 map : ps.map TV.l = es.map (gF rs)
theorem iI {rs : List Sx.Rl} {es : List Sx.Er} {va : Option Addr} {vc : Nat} {ta : Option Addr} {tc : Nat} {ps : List TV} {w w' : World} (h : xZ rs es va vc ta tc ps w) (hb : Below w.heap.size w w') : xZ rs es va vc ta tc ps w' :=
 ⟨au h.ends hb, au h.row hb, fun p hp => au (h.els p hp) hb, h.map⟩
def KM (rs : List Sx.Rl) (nm : Tx.Bs) (es : List Sx.Er) (a : Option Addr) (c : Nat) (w : World) (e : Ending) (w' : World) : Prop :=
 ∃ va vc ta tc ps, e = .returned (.agg #[af nm, .slice a es.length c, .slice va (aT es).length vc, .slice ta ps.length tc]) ∧ xZ rs es va vc ta tc ps w' ∧ Below w.heap.size w w'
structure nI (rs : List Sx.Rl) (ra : Option Addr) (rcap : Nat) (zv lv : Value) (nm : Tx.Bs) (es : List Sx.Er) (a : Option Addr) (c : Nat) (va : Option Addr) (vc : Nat) (L : List Int) (w : World) (N M T : Nat) (wr : World) (tv : Value) (ps : List TV) : Prop where
 bel : Below N w wr
 x : ag wr N [.slice ra rs.length rcap, zv, lv]
 z : ag wr (N + 1) [af nm, .slice a es.length c]
 r : ag wr (N + 1 + 1) [.string ⟨#[]⟩, .slice none 0 0, .slice none 0 0, .slice none 0 0]
 t : ag wr T [af nm, .slice a es.length c, .slice va L.length vc, tv]
 ends : bK wr (N + 1 + 1 + 1) (.slice va L.length vc) L
 own : Oo wr M tv ps
 els : ∀ p ∈ ps, oQ wr M (.slice p.a p.l.length p.c) p.l
 eb : ∀ g, (Value.slice va L.length vc).ownBlock = some g → g < M ∧ g ≠ T
 ord : N + 1 + 1 + 1 ≤ T ∧ T < M ∧ M ≤ wr.heap.size
section
variable {rs : List Sx.Rl} {ra : Option Addr} {rcap : Nat} {zv lv : Value} {nm : Tx.Bs} {es : List Sx.Er} {a : Option Addr} {c : Nat} {va : Option Addr} {vc : Nat} {L : List Int} {w : World} {N M T : Nat} {wr w' w9 : World} {tv v' : Value} {ps : List TV}
theorem NY (H : nI rs ra rcap zv lv nm es a c va vc L w N M T wr tv ps) (hb : Below wr.heap.size wr w') : nI rs ra rcap zv lv nm es a c va vc L w N M T w' tv ps := by
 obtain ⟨h1, h2, h3, h4, h5, h6, h7, h8, h9, h10, h11, h12⟩ := H
 exact ⟨aL h1 (by omega) hb, ah h2 hb, ah h3 hb, ah h4 hb, ah h5 hb, aJ h6 hb, aJ h7 hb, fun p hp => aJ (h8 p hp) hb, h9, h10, h11, Nat.le_trans h12 hb.size⟩
theorem Aa {n : Nat} {o : Obj} {xs : List Value} (H : nI rs ra rcap zv lv nm es a c va vc L w N M T wr tv ps) (hown : w9.ownsRow M 68 1 v' n xs) (hg : (wr.alloc o).grownBy w9 tv.ownBlock) :
  Below N w w9 ∧ ag w9 N [.slice ra rs.length rcap, zv, lv] ∧ ag w9 (N + 1) [af nm, .slice a es.length c] ∧ ag w9 (N + 1 + 1) [.string ⟨#[]⟩, .slice none 0 0, .slice none 0 0, .slice none 0 0] ∧ ag w9 T [af nm, .slice a es.length c, .slice va L.length vc, tv] ∧ bK w9 (N + 1 + 1 + 1) (.slice va L.length vc) L ∧ (∀ p ∈ ps, oQ w9 M (.slice p.a p.l.length p.c) p.l) ∧ M ≤ w9.heap.size := by
 obtain ⟨h1, h2, h3, h4, h5, h6, h7, h8, h9, h10, h11, h12⟩ := H
 have ne : ∀ X, X < M → ∀ k, tv.ownBlock = some k → k ≠ X := fun X hX k hk => by have := (h7.lt k hk).1; omega
 have hz := hg.size
 simp at hz
 refine ⟨Below.grown (h1.alloc (by omega) _) hg (by simp; omega) (fun k hk => by have := (h7.lt k hk).1; omega), ca_grownO (aH h2 _) hg (ne _ (by omega)), ca_grownO (aH h3 _) hg (ne _ (by omega)), ca_grownO (aH h4 _) hg (ne _ (by omega)), ca_grownO (aH h5 _) hg (ne _ (by omega)), ?_, fun p hp => qJ (h8 p hp) h7 (by decide) hg, by omega⟩
 exact qJ h6 (dC h7 (by omega)) (by decide) hg
theorem Hr {n : Nat} {o : Obj} {xs : List Value} (H : nI rs ra rcap zv lv nm es a c va vc L w N M T wr tv ps) (hown : w9.ownsRow M 68 1 v' n xs) (hg : (wr.alloc o).grownBy w9 tv.ownBlock) :
  ∃ ta tc, v' = .slice ta n tc ∧ w9.cell? ⟨T, 3, none⟩ = some tv ∧ w9.frozen? ⟨T, 3, none⟩ = false ∧ T < w9.heap.size := by
 obtain ⟨ta, tc, rfl⟩ := aF hown
 obtain ⟨_, _, _, _, t, _⟩ := Aa H hown hg
 obtain ⟨g1, g2⟩ := aa t 3 rfl
 exact ⟨ta, tc, rfl, g1, g2, t.1⟩
theorem Hq {o : Obj} {p : TV} {ta : Option Addr} {tc : Nat} (H : nI rs ra rcap zv lv nm es a c va vc L w N M T wr tv ps) (he : oQ wr M (.slice p.a p.l.length p.c) p.l) (hown : w9.ownsRow M 68 1 (.slice ta (ps.length + 1) tc) (ps.length + 1) (ps.flatMap uS ++ uS p)) (hg : (wr.alloc o).grownBy w9 tv.ownBlock) :
  nI rs ra rcap zv lv nm es a c va vc L w N M T (w9.setCell ⟨T, 3, none⟩ (.slice ta (ps.length + 1) tc)) (.slice ta (ps.length + 1) tc) (ps ++ [p]) := by
 obtain ⟨g1, g2, g3, g4, g5, g6, g8, g9⟩ := Aa H hown hg
 have he9 := qJ he H.own (by decide) hg
 obtain ⟨h1, h2, h3, h4, h5, h6, h7, h8, h9, h10, h11, h12⟩ := H
 refine ⟨aB g1 (by omega) _, bz g2 (by omega), bz g3 (by omega), bz g4 (by omega), aS g5 3 _ (by simp), ownsRow_setCell_other g6 (fun q => (h9 _ q).2 rfl) _, ?_, ?_, h9, h10, h11, by simpa using g9⟩
 ·refine ownsRow_setCell_other ?_ (fun q => ?_) _
  ·show World.ownsRow _ _ _ _ _ _ _; simpa using hown
  ·have : M ≤ T := (hown.lt _ q).1; omega
 ·intro y hy
  rcases List.mem_append.1 hy with hy | hy
  ·exact ownsRow_setCell_other (g8 y hy) (fun q => by have : M ≤ T := ((g8 y hy).lt _ q).1; omega) _
  ·have : y = p := by simpa using hy
   subst this
   exact ownsRow_setCell_other he9 (fun q => by have : M ≤ T := (he9.lt _ q).1; omega) _
theorem QP {ta : Option Addr} {tc : Nat} (H : nI rs ra rcap zv lv nm es a c va vc L w N M T wr (.slice ta ps.length tc) ps) (hL : aT es = L) (hM : ps.map TV.l = es.map (gF rs)) (u0 u1 u2 u3 : Value) :
  xZ rs es va vc ta tc ps ((((wr.setCell ⟨N + 1 + 1, 0, none⟩ u0).setCell ⟨N + 1 + 1, 1, none⟩ u1).setCell ⟨N + 1 + 1, 2, none⟩ u2).setCell ⟨N + 1 + 1, 3, none⟩ u3) ∧ Below N w ((((wr.setCell ⟨N + 1 + 1, 0, none⟩ u0).setCell ⟨N + 1 + 1, 1, none⟩ u1).setCell ⟨N + 1 + 1, 2, none⟩ u2).setCell ⟨N + 1 + 1, 3, none⟩ u3) := by
 obtain ⟨h1, h2, h3, h4, h5, h6, h7, h8, h9, h10, h11, h12⟩ := H
 subst hL
 have hq : N + 1 + 1 < M := by omega
 refine ⟨⟨jY (dY (dY (dY (dY h6 (by omega)) (by omega)) (by omega)) (by omega)), Qo (dY (dY (dY (dY h7 hq) hq) hq) hq), fun p hp => Qn (dY (dY (dY (dY (h8 p hp) hq) hq) hq) hq), hM⟩, ax (ax (ax (ax h1 (by omega) _ _) (by omega) _ _) (by omega) _ _) (by omega) _ _⟩
end
theorem Ki (rs : List Sx.Rl) (nm : Tx.Bs) (es : List Sx.Er) (ra a : Option Addr) (rcap c : Nat) (zv lv : Value) (w : World) (h1 : bN w (.slice ra rs.length rcap) rs) (hs : ∀ r ∈ rs, r.name.length ≤ maxLen ∧ r.letter.length ≤ maxLen) (h2 : fA w (.slice a es.length c) es) (ho : lD es) (hl : es.length ≤ 1000) (hok : ∀ e ∈ es, e.opn = true ∨ lC e) (hte : ∀ x ∈ es, x.rules ≠ [] → Sx.aY rs x.rules x.shift = 0) :
  Calls Tryz.prog 25 #[.agg #[.slice ra rs.length rcap, zv, lv], .agg #[af nm, .slice a es.length c]] w fun e w' => KM rs nm es a c w e w' := by
 obtain ⟨i0, hi, hz0, hz1, hz2⟩ := info_parts Tryz.Ry
 obtain ⟨L, hL⟩ : ∃ L, aT es = L := ⟨_, rfl⟩
 have HL := hid hL
 have LO := hid ho
 have TILL := hid hok
 have HTE := hid hte
 have HSZ := hid hs
 have RE0 := hid h2
 have RR0 := hid h1
 obtain ⟨N, hN⟩ : ∃ N, w.heap.size = N := ⟨_, rfl⟩
 obtain ⟨V0, g0, X0, hb0, sz0⟩ := aR w #[.slice ra rs.length rcap, zv, lv] 26
 obtain ⟨V1, g1, Y0, hb1, sz1⟩ := aR V0 #[af nm, .slice a es.length c] 44
 obtain ⟨V, g2, R0, hb2, sz2⟩ := aR V1 #[.string ⟨#[]⟩, .slice none 0 0, .slice none 0 0, .slice none 0 0] 58
 have e0 : V0.heap.size = N + 1 := by omega
 have e1 : V1.heap.size = N + 1 + 1 := by omega
 have eV : V.heap.size = N + 1 + 1 + 1 := by omega
 rw [hN] at X0
 rw [e0] at Y0
 rw [e1] at R0
 have X : Hid (ag V N [.slice ra rs.length rcap, zv, lv]) := ah (ah X0 hb1) hb2
 have Z : Hid (ag V (N + 1) [af nm, .slice a es.length c]) := ah Y0 hb2
 have R : Hid (ag V (N + 1 + 1) [.string ⟨#[]⟩, .slice none 0 0, .slice none 0 0, .slice none 0 0]) := R0
 have bb := hb0.trans ((hb1.trans (hb2.mono (by omega))).mono (by omega))
 have B : Hid (Below N w V) := hN ▸ bb
 have RE1 := hid (au h2 bb)
 have gV : ((w.alloc (.cells #[.slice ra rs.length rcap, zv, lv] 26)).alloc (.cells #[af nm, .slice a es.length c] 44)).alloc (.cells #[.string ⟨#[]⟩, .slice none 0 0, .slice none 0 0, .slice none 0 0] 58) = V := by rw [g0, g1]; exact g2
 have sV : N + 1 + 1 + 1 ≤ V.heap.size := by omega
 clear h1 hs h2 ho hok hte X0 Y0 R0 hb0 hb1 hb2 sz0 sz1 sz2 g0 g1 g2 e0 e1 eV hL bb
 unfold KM
 go_enter Tryz.func25, Tryz.ntmps25
 simp only [hN]
 obtain ⟨⟨z0, _⟩, ⟨z1, _⟩, sz⟩ := cp2 Z.out
 have SS := hid (show V.cell? ⟨N + 1, 0, none⟩ = some (af nm) ∧ V.cell? ⟨N + 1, 1, none⟩ = some (.slice a es.length c) from ⟨z0, z1⟩)
 have KS : Hid (∀ wz, Below V.heap.size V wz → (wz.cell? ⟨N + 1, 0, none⟩ = some (af nm) ∧ wz.cell? ⟨N + 1, 1, none⟩ = some (.slice a es.length c))) := fun wz hb => ⟨(hb.cell (p := ⟨N + 1, 0, none⟩) sz).trans z0, (hb.cell (p := ⟨N + 1, 1, none⟩) sz).trans z1⟩
 have CE : Hid (∀ W, Below V.heap.size V W → Calls Tryz.prog 20 #[.agg #[af nm, .slice a es.length c]] W fun e w' => ∃ va vc, e = .returned (.slice va L.length vc) ∧ bK w' W.heap.size (.slice va L.length vc) L ∧ Below W.heap.size W w') := fun W hW => by
  have := wY nm es a c W (au RE1.out hW) LO.out (by omega) TILL.out
  rw [HL.out] at this
  refine this.mono ?_
  rintro e w' ⟨v, rfl, hO, hb⟩
  obtain ⟨va, vc, rfl⟩ := aF hO
  exact ⟨va, vc, rfl, hO, hb⟩
 go_upto_region 1 with fail
 clear gV z0 z1 sz
 go_cut [5] from 10 to 13 (fun s5 wc => ∃ T va vc, s5 = .pointer (some ⟨T, 0, none⟩) ∧ V.heap.size ≤ T ∧ ag wc T [af nm, .slice a es.length c, .slice va L.length vc, .slice none 0 0] ∧ Below V.heap.size V wc ∧ bK wc V.heap.size (.slice va L.length vc) L ∧ ∀ g, (Value.slice va L.length vc).ownBlock = some g → g ≠ T)
 case first =>
  refine wp_region_held_drew (S := fun w' => w'.cell? ⟨N + 1, 0, none⟩ = some (af nm) ∧ w'.cell? ⟨N + 1, 1, none⟩ = some (.slice a es.length c)) (by kernel_rfl) SS.out (fun hHeld => ?_)
  refine tkA 0 rfl ?_
  refine tkA 1 rfl ?_
  refine wpAnyH_ready (rs := [2,4]) (by kernel_rfl) (by simp) ?_
  refine AllReadyH.cons rfl (fun K hK => ?_) ?_
  ·go_simp
   refine (CE.out _ (show Below V.heap.size V V.drew from ⟨rfl, rfl, rfl, Nat.le_refl _, fun _ _ => rfl⟩)).mono ?_
   rintro e w7x ⟨va, vc, rfl, hO, hb7⟩
   have hb := bq hb7
   have S7 := KS.out w7x hb
   refine hK.out _ _ S7 (fun hHeld2 => ?_)
   clear hK K
   try simp only [Act.put, j]
   refine tkA 3 rfl ?_
   have B8 : Below V.heap.size V (w7x.alloc (.cells #[.string ⟨#[]⟩, .slice none 0 0, .slice none 0 0, .slice none 0 0] 58)) := hb.trans (((q4B w7x.heap.size w7x).alloc (Nat.le_refl _) _).mono hb.size)
   have S8 := KS.out _ B8
   refine rdH 4 rfl fun K hK => ?_
   go_simp
   refine hK.out _ _ S8 (fun hHeld2 => ?_)
   clear hK K
   try simp only [Act.put, j]
   have B9 : Below V.heap.size V (w7x.alloc (.cells #[af nm, .slice a es.length c, .slice va L.length vc, .slice none 0 0] 58)) := hb.trans (((q4B w7x.heap.size w7x).alloc (Nat.le_refl _) _).mono hb.size)
   have S9 := KS.out _ B9
   have T9 : ag (w7x.alloc (.cells #[af nm, .slice a es.length c, .slice va L.length vc, .slice none 0 0] 58)) w7x.heap.size [af nm, .slice a es.length c, .slice va L.length vc, .slice none 0 0] := aC w7x [af nm, .slice a es.length c, .slice va L.length vc, .slice none 0 0] 58
   have N9 : V.heap.size ≤ w7x.heap.size := hb.size
   refine rdH 5 rfl fun K hK => ?_
   go_simp
   refine hK.out _ _ S9 (fun hHeld2 => ?_)
   clear hK K
   try simp only [Act.put, j]
   refine wpAnyH_done (by kernel_rfl) ?_ _
   have O9 := World.ownsRow.alloc hO (.cells #[af nm, .slice a es.length c, .slice va L.length vc, .slice none 0 0] 58)
   have E9 : ∀ g, (Value.slice va L.length vc).ownBlock = some g → g ≠ w7x.heap.size := fun g q => by have := (hO.lt g q).2; omega
   go_wp2_with fail
   go_meet
   exact ⟨_, va, vc, rfl, N9, T9, B9, O9, E9⟩
  refine AllReadyH.cons rfl (fun K hK => ?_) AllReadyH.nil
  have BB : Below V.heap.size V (V.drew.alloc (.cells #[.string ⟨#[]⟩, .slice none 0 0, .slice none 0 0, .slice none 0 0] 58)) := (show Below V.heap.size V V.drew from ⟨rfl, rfl, rfl, Nat.le_refl _, fun _ _ => rfl⟩).trans ((q4B V.drew.heap.size V.drew).alloc (Nat.le_refl _) _)
  have TB := aC V.drew [.string ⟨#[]⟩, .slice none 0 0, .slice none 0 0, .slice none 0 0] 58
  go_simp
  have S7 := KS.out _ BB
  refine hK.out _ _ S7 (fun hHeld2 => ?_)
  clear hK K
  try simp only [Act.put, j]
  refine rdH 2 rfl fun K hK => ?_
  go_simp
  refine (CE.out _ BB).mono ?_
  rintro e w7x ⟨va, vc, rfl, hO, hb7⟩
  have hb := BB.trans (hb7.mono BB.size)
  have S8 := KS.out w7x hb
  have T7 : ag w7x V.heap.size [.string ⟨#[]⟩, .slice none 0 0, .slice none 0 0, .slice none 0 0] := ah TB hb7
  obtain ⟨⟨q0, k0⟩, ⟨q1, k1⟩, ⟨q2, k2⟩, ⟨q3, k3⟩, sT⟩ := cp4 T7
  refine hK.out _ _ S8 (fun hHeld2 => ?_)
  clear hK K
  try simp only [Act.put, j]
  refine tkA 3 rfl ?_
  have B9 := (ax (ax (ax (ax hb (Nat.le_refl _) 0 (af nm)) (Nat.le_refl _) 1 (.slice a es.length c)) (Nat.le_refl _) 2 (.slice va L.length vc)) (Nat.le_refl _) 3 (.slice none 0 0))
  have S9 := KS.out _ B9
  have T9 := (aS (aS (aS (aS T7 0 (af nm) (by simp)) 1 (.slice a es.length c) (by simp)) 2 (.slice va L.length vc) (by simp)) 3 (.slice none 0 0) (by simp))
  simp only [List.set_cons_zero, List.set_cons_succ] at T9
  have N9 : V.heap.size ≤ V.heap.size := Nat.le_refl _
  refine rdH 5 rfl fun K hK => ?_
  go_simp
  refine hK.out _ _ S9 (fun hHeld2 => ?_)
  clear hK K
  try simp only [Act.put, j]
  refine wpAnyH_done (by kernel_rfl) ?_ _
  have E9 : ∀ g, (Value.slice va L.length vc).ownBlock = some g → g ≠ V.heap.size := fun g q => by have := (hO.lt g q).1; simp at this; omega
  have hq9 : V.heap.size < (V.drew.alloc (.cells #[.string ⟨#[]⟩, .slice none 0 0, .slice none 0 0, .slice none 0 0] 58)).heap.size := by simp
  have O9 := dY (dY (dY (dY (hO) hq9 (o := 0) (u := af nm)) hq9 (o := 1) (u := .slice a es.length c)) hq9 (o := 2) (u := .slice va L.length vc)) hq9 (o := 3) (u := .slice none 0 0)
  replace O9 := dC O9 (show V.heap.size ≤ _ by simp)
  go_wp2_with fail
  go_meet
  exact ⟨_, va, vc, rfl, N9, T9, B9, O9, E9⟩
 case rest =>
 obtain ⟨T, va, vc, rfl, hT, CT1, BW, OE, E9⟩ := hcut
 obtain ⟨M, hM⟩ : ∃ M, wc.heap.size = M := ⟨_, rfl⟩
 have hTM : T < M := by have := CT1.1; omega
 have ST : Hid (nI rs ra rcap zv lv nm es a c va vc L w N M T wc (.slice none 0 0) []) := by
  refine ⟨aL B.out (by omega) BW, ah X.out BW, ah Z.out BW, ah R.out BW, CT1, dC OE (by omega), Nc _ _, fun p hp => (by cases hp), fun g q => ⟨by have := (OE.lt g q).2; omega, E9 g q⟩, by omega, hTM, by omega⟩
 clear SS KS CE B X Z R CT1 BW OE E9 sV hM hT hTM
 obtain ⟨w1, hw1⟩ : ∃ y, wc = y := ⟨_, rfl⟩
 rw [hw1] at ST ⊢
 clear hw1
 go_wp2_with fail
 go_loopw [6] (fun kv wr => ∃ (k : Nat) (ps : List TV) (tv : Value), k ≤ es.length ∧ kv = .int .i64 k ∧ Hid (ps.length = k) ∧ Hid (ps.map TV.l = (es.take k).map (gF rs)) ∧ Hid (nI rs ra rcap zv lv nm es a c va vc L w N M T wr tv ps)) (fun kv _ => es.length - (intOf kv).toNat)
 case atStart => exact ⟨0, [], _, Nat.zero_le _, rfl, rfl, rfl, ST⟩
 case round =>
  clear ST
  obtain ⟨k, ps, tv, hk, rfl, hpl, HM, H⟩ := hrel
  obtain ⟨z1, _⟩ := aa H.out.z 1 rfl
  have sz := H.out.z.1
  have hown := H.out.own
  obtain ⟨ta, tc, rfl⟩ := aF hown
  clear hown
  by_cases hlt : k < es.length
  case neg =>
   have e : k = es.length := by omega
   have q : ¬ (k : Int) < (es.length : Int) := by omega
   have HM2 : Hid (ps.map TV.l = es.map (gF rs)) := by have := HM.out; rw [e, List.take_length] at this; exact this
   obtain ⟨⟨t0, _⟩, ⟨t1, _⟩, ⟨t2, _⟩, ⟨t3, _⟩, st⟩ := cp4 H.out.t
   obtain ⟨⟨r0, f0⟩, ⟨r1, f1⟩, ⟨r2, f2⟩, ⟨r3, f3⟩, sr⟩ := cp4 H.out.r
   have E := hid (QP H.out HL.out HM2.out (af nm) (.slice a es.length c) (.slice va L.length vc) (.slice ta ps.length tc))
   clear hlt e HM
   go_wp2
   refine bodyPost_ret (v := .agg #[af nm, .slice a es.length c, .slice va L.length vc, .slice ta ps.length tc]) (by simp [results, Tryz.results25, go_sem, *]) rfl ⟨va, vc, ta, tc, ps, by rw [HL.out], E.out.1, E.out.2⟩
  obtain ⟨x, hx⟩ : ∃ x, es[k]? = some x := ⟨_, q4G hlt⟩
  obtain ⟨eb, eo, e1, heb, hc⟩ := aN (au RE0.out (hN ▸ H.out.bel)) hx
  subst e1
  have c0 : wr.cell? ⟨eb, eo + k * 10, none⟩ = some (.int .i64 x.shift) := by have := hc 0 _ rfl; simpa using this
  have c1 : wr.cell? ⟨eb, eo + k * 10 + 1, none⟩ = some (af x.rules) := hc 1 _ rfl
  have hdr : es.take (k + 1) = es.take k ++ [x] := by rw [List.take_add_one, hx]; rfl
  have hmem := List.mem_of_getElem? hx
  have q : (k : Int) < (es.length : Int) := by omega
  clear hc hx
  cases hr : x.rules.isEmpty
  case true =>
   have hr0 : x.rules = [] := by simpa using hr
   have HTX : Hid (([] : List Sx.Tm) = gF rs x) := by show _ = _; unfold gF; rw [if_pos hr0]
   rw [hr0] at c1
   clear hr hr0 hmem
   have H9 := H.out
   have OW9 := H9.own
   obtain ⟨t3, _⟩ := aa H9.t 3 rfl
   have stt := H9.t.1
   have hm9 := H9.ord.2.2
   go_wp2_with (at_builtin; refine wpList_append_own _ rfl _ _ 56 rfl M 68 i0 (.slice none 0 0) 1 24 Tryz.underlying56 hi hz0 hz1 hz2 rfl (by decide) _ _ _ rfl (World.ownsRow.alloc OW9 _) _ 1 1 [.slice none 0 0] rfl rfl (one_cell _ _) (by intro u hu; simp at hu; subst hu; rfl) (by have := hpl.out; unfold maxLen; omega) (by have := hpl.out; omega) (by simp; omega) ?_)
   intro v' w9 hown' hgrow _
   obtain ⟨ta', tc', rfl, t3', m3', st3⟩ := Hr H9 hown' hgrow
   have H2 := hid (Hq (p := ⟨[], none, 0⟩) H9 (vM _ _) hown' hgrow)
   clear H H9 hown' hgrow OW9 t3 stt hm9
   go_wp2
   go_roundw
   case rel => exact ⟨k + 1, ps ++ [⟨[], none, 0⟩], _, by omega, by go_num, by show _ = _; rw [List.length_append, hpl.out]; rfl, by show _ = _; rw [List.map_append, HM.out, hdr, List.map_append]; show _ ++ [_] = _ ++ [_]; rw [← HTX.out], H2⟩
   case measure => simp [intOf]; omega
  have hr0 : x.rules ≠ [] := by intro q; rw [q] at hr; cases hr
  have hTE := HTE.out x hmem hr0
  obtain ⟨Q, hQ⟩ : ∃ T, Sx.times rs x.rules x.shift = T := ⟨_, rfl⟩
  have hQ1 : Q.length ≤ 1000 := by rw [← hQ]; exact Sx.oJ _ _ _
  have HTX : Hid (Q = gF rs x) := by show _ = _; unfold gF; rw [if_neg hr0, hQ]
  have RR := hid (au RR0.out (hN ▸ H.out.bel))
  have CT : Hid (∀ W, Below wr.heap.size wr W → Calls Tryz.prog 59 #[.slice ra rs.length rcap, af x.rules, .int .i64 x.shift] W fun e w' => ∃ pa pc, e = .returned (.tuple #[.slice pa Q.length pc, .int .i64 0]) ∧ oQ w' W.heap.size (.slice pa Q.length pc) Q ∧ Below W.heap.size W w') := fun W hW => by
   have := xh rs _ x.rules x.shift W (au RR.out hW) HSZ.out
   refine this.mono ?_
   intro e w' hE
   unfold EI at hE
   rw [hTE, hQ] at hE
   obtain ⟨v, rfl, hO, hb⟩ := hE
   obtain ⟨pa, pc, rfl⟩ := aF hO
   exact ⟨pa, pc, rfl, hO, hb⟩
  clear hQ hTE hmem
  obtain ⟨s0, _⟩ := aa H.out.x 0 rfl
  have sx := H.out.x.1
  have HNE : Hid (x.rules ≠ []) := hr0
  have SS := hid (show wr.cell? ⟨N, 0, none⟩ = some (.slice ra rs.length rcap) ∧ wr.cell? ⟨N + 1, 1, none⟩ = some (.slice (some ⟨eb, eo, none⟩) es.length c) ∧ wr.cell? ⟨eb, eo + k * 10, none⟩ = some (.int .i64 x.shift) ∧ wr.cell? ⟨eb, eo + k * 10 + 1, none⟩ = some (af x.rules) from ⟨s0, z1, c0, c1⟩)
  have KS : Hid (∀ wz, Below wr.heap.size wr wz → (wz.cell? ⟨N, 0, none⟩ = some (.slice ra rs.length rcap) ∧ wz.cell? ⟨N + 1, 1, none⟩ = some (.slice (some ⟨eb, eo, none⟩) es.length c) ∧ wz.cell? ⟨eb, eo + k * 10, none⟩ = some (.int .i64 x.shift) ∧ wz.cell? ⟨eb, eo + k * 10 + 1, none⟩ = some (af x.rules))) := fun wz hb => ⟨(hb.cell (p := ⟨N, 0, none⟩) sx).trans s0, (hb.cell (p := ⟨N + 1, 1, none⟩) sz).trans z1, (hb.cell (p := ⟨eb, eo + k * 10, none⟩) heb).trans c0, (hb.cell (p := ⟨eb, eo + k * 10 + 1, none⟩) heb).trans c1⟩
  clear hr0
  go_upto_region 7 with fail
  refine wp_region_held_drew (S := fun w' => w'.cell? ⟨N, 0, none⟩ = some (.slice ra rs.length rcap) ∧ w'.cell? ⟨N + 1, 1, none⟩ = some (.slice (some ⟨eb, eo, none⟩) es.length c) ∧ w'.cell? ⟨eb, eo + k * 10, none⟩ = some (.int .i64 x.shift) ∧ w'.cell? ⟨eb, eo + k * 10 + 1, none⟩ = some (af x.rules)) (by kernel_rfl) SS.out (fun hHeld => ?_)
  refine tkA 0 rfl ?_
  refine tkA 1 rfl ?_
  refine tkA 2 rfl ?_
  refine tkA 3 rfl ?_
  refine tkA 4 rfl ?_
  refine tkA 5 rfl ?_
  refine tkA 6 rfl ?_
  refine tkA 7 rfl ?_
  refine tkA 8 rfl ?_
  refine tkA 9 rfl ?_
  refine tkA 10 rfl ?_
  refine tkA 11 rfl ?_
  refine tkA 12 rfl ?_
  refine tkA 13 rfl ?_
  refine rdH 14 rfl fun K hK => ?_
  go_simp
  refine (CT.out _ (show Below wr.heap.size wr wr.drew from ⟨rfl, rfl, rfl, Nat.le_refl _, fun _ _ => rfl⟩)).mono ?_
  rintro e w10 ⟨pa, pc, rfl, hO, hb10⟩
  have hb := bq hb10
  have SS7 := KS.out w10 hb
  refine hK.out _ _ ?_ (fun hHeld => ?_)
  ·exact SS7
  clear hK K
  try simp only [Act.put, j]
  refine tkA 15 rfl ?_
  refine tkA 16 rfl ?_
  refine tkA 17 rfl ?_
  refine tkA 18 rfl ?_
  refine tkA 19 rfl ?_
  refine wpAnyH_done (by kernel_rfl) ?_ _
  have H' := hid (NY H.out hb)
  have HEL := hid (dC hO (show M ≤ wr.drew.heap.size from H.out.ord.2.2))
  clear H hO s0 sx z1 c0 c1 heb sz KS SS CT SS7 hb hb10 hHeld RR HNE
  have H9 := H'.out
  have OW9 := H9.own
  obtain ⟨t3, _⟩ := aa H9.t 3 rfl
  have stt := H9.t.1
  have hm9 := H9.ord.2.2
  go_wp2_with (at_builtin; refine wpList_append_own _ rfl _ _ 56 rfl M 68 i0 (.slice none 0 0) 1 24 Tryz.underlying56 hi hz0 hz1 hz2 rfl (by decide) _ _ _ rfl (World.ownsRow.alloc OW9 _) _ 1 1 [.slice pa Q.length pc] rfl rfl (one_cell _ _) (by intro u hu; simp at hu; subst hu; rfl) (by have := hpl.out; unfold maxLen; omega) (by have := hpl.out; omega) (by simp; omega) ?_)
  intro v' w9 hown' hgrow _
  obtain ⟨ta', tc', rfl, t3', m3', st3⟩ := Hr H9 hown' hgrow
  have H2 := hid (Hq (p := ⟨Q, pa, pc⟩) H9 HEL.out hown' hgrow)
  clear H' H9 hown' hgrow OW9 t3 stt hm9
  go_wp2
  go_roundw
  case rel => exact ⟨k + 1, ps ++ [⟨Q, pa, pc⟩], _, by omega, by go_num, by show _ = _; rw [List.length_append, hpl.out]; rfl, by show _ = _; rw [List.map_append, HM.out, hdr, List.map_append]; show _ ++ [_] = _ ++ [_]; rw [← HTX.out], H2⟩
  case measure => simp [intOf]; omega
end
section
open Go.RowKit
def lU (sv : Int) (lt : Tx.Bs) (pre : Tx.Bs) : Tx.Bs → Tx.Bs
 | [] => pre
 | c :: r => if c = 47 then (if sv = 0 then pre else r) else if c = 37 then pre ++ lt ++ r.drop 1 else lU sv lt (pre ++ [c]) r
theorem mD {sv : Int} {lt : Tx.Bs} : ∀ (p pre r : Tx.Bs), Sx.aU p = true → lU sv lt pre (p ++ r) = lU sv lt (pre ++ p) r
 | [], pre, r, _ => by simp
 | c :: p, pre, r, h => by
   have h' : Sx.dK c = true ∧ Sx.aU p = true := by simpa [Sx.aU] using h
   have c1 : ¬ c = 47 := by intro q; rw [q] at h'; exact absurd h'.1 (by decide)
   have c2 : ¬ c = 37 := by intro q; rw [q] at h'; exact absurd h'.1 (by decide)
   show (if c = 47 then (if sv = 0 then pre else p ++ r) else if c = 37 then pre ++ lt ++ (p ++ r).drop 1 else lU sv lt (pre ++ [c]) (p ++ r)) = _
   rw [if_neg c1, if_neg c2, mD p _ r h'.2]
   simp
theorem vv {sub : Tx.Bs} (hs : sub.isEmpty = false) : ∀ s : Tx.Bs, (Lib.cut s sub).2.2 = true → s = (Lib.cut s sub).1 ++ sub ++ (Lib.cut s sub).2.1
 | [], h => by rw [Sx.xJ sub hs] at h; cases h
 | c :: r, h => by
   cases q : sub.isPrefixOf (c :: r)
   ·rw [Sx.pG q] at h ⊢
    have := vv hs r h
    simp only [List.cons_append]
    rw [← this]
   ·rw [Sx.tO q]
    obtain ⟨t, ht⟩ := List.isPrefixOf_iff_prefix.1 q
    simp only [List.nil_append]
    rw [← ht]; simp
theorem Fa {sub : Tx.Bs} (hs : sub.isEmpty = false) : ∀ s : Tx.Bs, (Lib.cut s sub).2.2 = false → (Lib.cut s sub).1 = s
 | [], h => by rw [Sx.xJ sub hs]
 | c :: r, h => by
   cases q : sub.isPrefixOf (c :: r)
   ·rw [Sx.pG q] at h ⊢
    have := Fa hs r h
    simp only
    rw [this]
   ·rw [Sx.tO q] at h; cases h
theorem Qg {s lt : Tx.Bs} {sv : Int} (h : Sx.xz true s = true) (hv : 0 ≤ sv) : lU sv lt [] s = jQ s sv lt := by
 unfold Sx.xz at h
 unfold jQ
 cases c1 : (Lib.cut s Sx.pct).2.2
 ·rw [c1] at h
  simp only [Bool.false_eq_true, ↓reduceIte] at h ⊢
  cases c2 : (Lib.cut s Sx.slash).2.2
  ·rw [c2] at h
   simp only [Bool.false_eq_true, ↓reduceIte, false_and] at h ⊢
   rw [Fa (by rfl) s c2]
   have := mD (sv := sv) (lt := lt) s [] [] h
   rw [List.append_nil] at this
   rw [this]; rfl
  ·rw [c2] at h
   simp only [↓reduceIte, true_and] at h ⊢
   simp at h
   obtain ⟨h1, h2⟩ := h
   have e := vv (by rfl) s c2
   conv => lhs; rw [e]
   rw [List.append_assoc, mD _ _ _ h1.2]
   show (if (47 : UInt8) = 47 then (if sv = 0 then [] ++ (Lib.cut s Sx.slash).1 else (Lib.cut s Sx.slash).2.1) else _) = _
   rw [if_pos rfl]
   by_cases q : sv = 0
   ·rw [if_pos q, if_neg (by omega)]; rfl
   ·rw [if_neg q, if_pos (by omega)]
 ·rw [c1] at h
  simp only [↓reduceIte] at h ⊢
  simp at h
  have e := vv (by rfl) s c1
  conv => lhs; rw [e]
  rw [List.append_assoc, mD _ _ _ h.1]
  show (if (37 : UInt8) = 47 then _ else if (37 : UInt8) = 37 then ([] ++ (Lib.cut s Sx.pct).1) ++ lt ++ ((115 : UInt8) :: (Lib.cut s Sx.pct).2.1).drop 1 else _) = _
  rw [if_neg (by decide), if_pos rfl]
  rfl
end
section
open Go.RowKit
theorem Dj {a : ByteArray} {l : Tx.Bs} (h : a.data.toList = l) : Ending.returned (.string a) = .returned (.string ⟨l.toArray⟩) := by
 have : a = ⟨l.toArray⟩ := by apply ByteArray.ext; rw [← h]
 rw [this]
theorem Jv {sv : Int} {lt pre r : Tx.Bs} {c : UInt8} (h1 : c ≠ 47) (h2 : c ≠ 37) : lU sv lt pre (c :: r) = lU sv lt (pre ++ [c]) r := by
 show (if c = 47 then _ else if c = 37 then _ else _) = _
 rw [if_neg h1, if_neg h2]
theorem Gd {sv : Int} {lt pre r : Tx.Bs} : lU sv lt pre (47 :: r) = if sv = 0 then pre else r := by
 show (if (47 : UInt8) = 47 then _ else _) = _
 rw [if_pos rfl]
theorem Ju {sv : Int} {lt pre r : Tx.Bs} : lU sv lt pre (37 :: r) = pre ++ lt ++ r.drop 1 := by
 show (if (37 : UInt8) = 47 then _ else if (37 : UInt8) = 37 then _ else _) = _
 rw [if_neg (by decide), if_pos rfl]
theorem Gz (s t : ByteArray) (sv : Int) (w : World) (hs : s.size ≤ 1000000) (ht : t.size ≤ 1000000) (hp : ∀ k, s.data.toList[k]? = some 37 → k + 2 ≤ s.size) :
  Calls Tryz.prog 64 #[.string s, .string t, .int .i64 sv] w fun e w' => e = .returned (.string ⟨(lU sv t.data.toList [] s.data.toList).toArray⟩) ∧ Below w.heap.size w w' := by
 obtain ⟨R, hR⟩ : ∃ R, lU sv t.data.toList [] s.data.toList = R := ⟨_, rfl⟩
 have HR : Hid (lU sv t.data.toList (s.data.toList.take 0) (s.data.toList.drop 0) = R) := by show _ = _; rw [List.take_zero, List.drop_zero]; exact hR
 have HP := hid hp
 rw [hR]
 clear hR hp
 go_enter Tryz.func64, Tryz.ntmps64
 go_wp2_with fail
 go_loop [7] (fun a => ∃ k : Nat, k ≤ s.size ∧ a = .int .i64 k ∧ Hid (lU sv t.data.toList (s.data.toList.take k) (s.data.toList.drop k) = R)) (fun a => s.size - (intOf a).toNat)
 case atStart => exact ⟨0, by omega, rfl, HR⟩
 case round =>
  clear HR
  obtain ⟨k, hk, rfl, HR⟩ := hrel
  have hsl : s.data.toList.length = s.size := kK s
  by_cases hlt : k < s.size
  case neg =>
   have e1 : s.data.toList.drop k = [] := List.drop_eq_nil_of_le (by omega)
   have e2 : s.data.toList = R := by
    have := HR.out
    rw [e1, List.take_of_length_le (by omega)] at this
    exact this
   have q : ¬ (k : Int) < (s.size : Int) := by omega
   have HE := hid e2
   clear hlt e1 HR e2
   go_wp2
   go_ret
   exact ⟨Dj HE.out, q4B _ _⟩
  obtain ⟨c, hc⟩ : ∃ c, s[k] = c := ⟨_, rfl⟩
  have hd : s.data.toList.drop k = c :: s.data.toList.drop (k + 1) := by rw [fB s k hlt, hc]
  have hg : s.data.toList[k]? = some c := by
   have : (s.data.toList.drop k)[0]? = some c := by rw [hd]; rfl
   rw [List.getElem?_drop, Nat.add_zero] at this
   exact this
  have HR1 : Hid (lU sv t.data.toList (s.data.toList.take k) (c :: s.data.toList.drop (k + 1)) = R) := by show _ = _; rw [← hd]; exact HR.out
  have q : (k : Int) < (s.size : Int) := by omega
  have HG := hid hg
  have HX := hid (yK s k hlt)
  rw [hc] at HX
  have hx1 := rA s k hlt
  clear HR hd hg
  by_cases c47 : c = 47
  ·have e47 : ((c.toNat : Int) == 47) = true := by rw [c47]; rfl
   have HR2 : Hid ((if sv = 0 then s.data.toList.take k else s.data.toList.drop (k + 1)) = R) := by show _ = _; rw [← HR1.out, c47, Gd]
   clear c47 HR1
   by_cases hz : sv = 0
   ·have ez : (sv == 0) = true := by simp [hz]
    have HE : Hid ((s.extract 0 k).data.toList = R) := by show _ = _; rw [Lib.extract_data, ← HR2.out, if_pos hz]; simp
    clear hz HR2
    go_wp2
    go_ret
    exact ⟨Dj HE.out, q4B _ _⟩
   ·have ez : (sv == 0) = false := by simp [hz]
    have HE : Hid ((s.extract (k + 1) s.size).data.toList = R) := by
     show _ = _
     rw [Lib.extract_data, ← HR2.out, if_neg hz, List.take_of_length_le (by rw [List.length_drop]; omega)]
    have w1 : wrap64 ((k : Int) + 1) = (k : Int) + 1 := by unfold wrap64; omega
    have b1 : (k : Int) + 1 ≤ (s.size : Int) := by omega
    clear hz HR2
    go_wp2
    go_ret
    exact ⟨Dj HE.out, q4B _ _⟩
  have e47 : ((c.toNat : Int) == 47) = false := by simp; intro h; exact c47 (UInt8.toNat_inj.1 (by show c.toNat = 47; omega))
  by_cases c37 : c = 37
  ·have e37 : ((c.toNat : Int) == 37) = true := by rw [c37]; rfl
   have h2 : k + 2 ≤ s.size := HP.out k (by rw [← c37]; exact HG.out)
   have HE : Hid ((s.extract 0 k ++ t ++ s.extract (k + 2) s.size).data.toList = R) := by
    show _ = _
    rw [← HR1.out, c37, Ju, List.drop_drop]
    simp only [ByteArray.data_append, Array.toList_append, Lib.extract_data]
    rw [List.drop_zero, Nat.sub_zero, List.take_of_length_le (l := s.data.toList.drop (k + 2)) (by rw [List.length_drop]; omega)]
   have w1 : wrap64 ((k : Int) + 2) = (k : Int) + 2 := by unfold wrap64; omega
   have w2 : IntKind.i64.wrap ((k : Int) + 2) = (k : Int) + 2 := IntWalk.i64_in _ (by omega)
   have b1 : (k : Int) + 2 ≤ (s.size : Int) := by omega
   clear c37 c47 HR1
   go_wp2_with fail
   go_quiet (fail)
   go_wp2
   go_ret
   exact ⟨Dj HE.out, below_drewN (q4B _ _) _⟩
  have e37 : ((c.toNat : Int) == 37) = false := by simp; intro h; exact c37 (UInt8.toNat_inj.1 (by show c.toNat = 37; omega))
  have HR2 : Hid (lU sv t.data.toList (s.data.toList.take (k + 1)) (s.data.toList.drop (k + 1)) = R) := by
   show _ = _
   rw [List.take_add_one, HG.out, ← HR1.out, Jv c47 c37]; rfl
  clear c37 c47 HR1
  go_wp2
  go_round
  case rel => exact ⟨k + 1, by omega, by go_num, HR2⟩
  case measure => simp [intOf]; omega
end
section
open Go.RowKit
theorem wL : ∀ (s : Tx.Bs) (f : Bool), (Sx.dH f s).isSome = true → ∀ k, s[k]? = some 37 → k + 2 ≤ s.length
 | [], _, _, k, h => by simp at h
 | c :: r, f, hs, k, hk => by
   have tail : (Sx.dH false r).isSome = true ∧ (c = 37 → r.head? = some 115) := by
    unfold Sx.dH at hs
    split at hs
    ·rename_i q
     split at hs
     ·cases hs
     ·refine ⟨by cases h : Sx.dH false r with
       | none => rw [h] at hs; cases hs
       | some n => rfl, fun w => ?_⟩
      rw [q] at w; exact absurd w (by decide)
    ·split at hs
     ·split at hs
      ·rename_i q
       refine ⟨by cases h : Sx.dH false r with
        | none => rw [h] at hs; cases hs
        | some n => rfl, fun _ => q⟩
      ·cases hs
     ·rename_i q
      split at hs
      ·exact ⟨hs, fun w => absurd w q⟩
      ·cases hs
   cases k with
   | zero =>
     simp at hk
     have := tail.2 hk
     cases r with
     | nil => simp at this
     | cons a l => simp
   | succ k =>
     have := wL r false tail.1 k (by simpa using hk)
     simp; omega
theorem wO {s : Tx.Bs} (h : Sx.cZ s = true) : s.length ≤ 24 ∧ (∀ k, s[k]? = some 37 → k + 2 ≤ s.length) ∧ Sx.xz true s = true := by
 have h2 := h
 rw [Sx.yS] at h2
 unfold Sx.cZ at h
 simp at h h2
 refine ⟨h.1.2, wL s true ?_, h2.2⟩
 cases q : Sx.dH true s with
 | none => have := h.2; rw [q] at this; cases this
 | some n => rfl
end
section
open Go.RowKit Go.Shelf
attribute [local go_sem] Oper.semAt_some
attribute [local go_sem ↓] Go.wp_at_zero Go.wp_at_succ

def stT (sv at_ : Int) (l : List Sx.Tm) : Sx.Tm := l.foldl (fun a t => if t.at_ ≤ at_ then t else a) ⟨0, sv, []⟩
theorem QN (sv at_ : Int) (l : List Sx.Tm) (t : Sx.Tm) : stT sv at_ (l ++ [t]) = if t.at_ ≤ at_ then t else stT sv at_ l := by
 unfold stT; rw [List.foldl_append]; rfl
theorem GQ {rs : List Sx.Rl} {x : Sx.Er} {at_ : Int} (h : x.rules ≠ [] → x.save = 0) : iR rs x at_ = stT x.save at_ (gF rs x) := by
 unfold iR gF
 by_cases q : x.rules = []
 ·rw [if_pos q, if_pos q]; rfl
 ·rw [if_neg q, if_neg q, h q]
  unfold lastT stT
  congr 1
  funext a t
  simp
/- what a zone's eras are, where the document tells what is shown -/
structure Ou (rs : List Sx.Rl) (es : List Sx.Er) : Prop where
 few : es.length ≤ 1000
 opn : lD es
 fm : ∀ e ∈ es, Sx.cZ e.format = true
 sh : ∀ e ∈ es, -64800 ≤ e.shift ∧ e.shift ≤ 64800
 sv : ∀ e ∈ es, 0 ≤ e.save ∧ e.save ≤ 10800 ∧ (e.rules ≠ [] → e.save = 0)
 tm : ∀ e ∈ es, ∀ t ∈ gF rs e, 0 ≤ t.save ∧ t.save ≤ 10800 ∧ t.letter.length ≤ 1000000
 tl : ∀ e ∈ es, (gF rs e).length ≤ 1000
theorem Su (sv at_ : Int) (l : List Sx.Tm) : stT sv at_ l = ⟨0, sv, []⟩ ∨ stT sv at_ l ∈ l := by
 have aux : ∀ (l : List Sx.Tm) (a : Sx.Tm), l.foldl (fun a t => if t.at_ ≤ at_ then t else a) a = a ∨ l.foldl (fun a t => if t.at_ ≤ at_ then t else a) a ∈ l := by
  intro l
  induction l with
  | nil => exact fun a => .inl rfl
  | cons t r ih =>
    intro a
    rw [List.foldl_cons]
    by_cases q : t.at_ ≤ at_
    ·rw [if_pos q]
     rcases ih t with h | h
     ·rw [h]; exact .inr (List.mem_cons_self ..)
     ·exact .inr (List.mem_cons_of_mem _ h)
    ·rw [if_neg q]
     rcases ih a with h | h
     ·exact .inl h
     ·exact .inr (List.mem_cons_of_mem _ h)
 exact aux l _
theorem Hm {rs : List Sx.Rl} {es : List Sx.Er} {x : Sx.Er} {at_ : Int} {T : Sx.Tm} (ok : Ou rs es) (hx : x ∈ es) (h : iR rs x at_ = T) : 0 ≤ T.save ∧ T.save ≤ 10800 ∧ T.letter.length ≤ 1000000 := by
 rw [GQ (fun q => (ok.sv x hx).2.2 q)] at h
 rcases Su x.save at_ (gF rs x) with q | q
 ·rw [← h, q]
  obtain ⟨a, b, _⟩ := ok.sv x hx
  exact ⟨a, b, by simp⟩
 ·rw [h] at q
  exact ok.tm x hx T q
theorem Ji {w : World} {bE N k : Nat} {u x y : Value} (h : w.cell? ⟨bE, 0, none⟩ = some x ∧ w.cell? ⟨bE, 3, none⟩ = some y) (hn : ¬ bE = N + 1) : (w.setCell ⟨N + 1, k, none⟩ u).cell? ⟨bE, 0, none⟩ = some x ∧ (w.setCell ⟨N + 1, k, none⟩ u).cell? ⟨bE, 3, none⟩ = some y :=
 ⟨(World.cell?_of_block (Below.heap_setCell _ _ _ _ hn)).trans h.1, (World.cell?_of_block (Below.heap_setCell _ _ _ _ hn)).trans h.2⟩
theorem Ku (rs : List Sx.Rl) (nm : Tx.Bs) (es : List Sx.Er) (a va ta : Option Addr) (c vc tc : Nat) (ps : List TV) (at_ : Int) (w : World) (h : xZ rs es va vc ta tc ps w) (he : fA w (.slice a es.length c) es) (ok : Ou rs es) :
  Calls Tryz.prog 26 #[.agg #[af nm, .slice a es.length c, .slice va (aT es).length vc, .slice ta ps.length tc], .int .i64 at_] w fun e w' => e = .returned (lcV (aI rs ⟨nm, es⟩ at_)) ∧ Below w.heap.size w w' := by
 obtain ⟨N, hN⟩ : ∃ N, w.heap.size = N := ⟨_, rfl⟩
 obtain ⟨L, hL⟩ : ∃ L, aT es = L := ⟨_, rfl⟩
 obtain ⟨V0, g0, X0, hb0, sz0⟩ := aR w #[af nm, .slice a es.length c, .slice va (aT es).length vc, .slice ta ps.length tc] 58
 obtain ⟨V, g1, Y0, hb1, sz1⟩ := aR V0 #[.int .i64 0, .int .i64 0, .string ⟨#[]⟩] 31
 have e0 : V0.heap.size = N + 1 := by omega
 rw [hN, hL] at X0
 rw [e0] at Y0
 have X : Hid (ag V N [af nm, .slice a es.length c, .slice va L.length vc, .slice ta ps.length tc]) := ah X0 hb1
 have R : Hid (ag V (N + 1) [.int .i64 0, .int .i64 0, .string ⟨#[]⟩]) := Y0
 have bb := hb0.trans (hb1.mono (by omega))
 have B : Hid (Below N w V) := hN ▸ bb
 have gV : (w.alloc (.cells #[af nm, .slice a es.length c, .slice va (aT es).length vc, .slice ta ps.length tc] 58)).alloc (.cells #[.int .i64 0, .int .i64 0, .string ⟨#[]⟩] 31) = V := by rw [g0]; exact g1
 have zV : N + 1 + 1 ≤ V.heap.size := by omega
 have H := hid (iI h bb)
 have HE := hid (au he bb)
 have OK := hid ok
 have HL := hid hL
 have hfew := ok.few
 have hLn : L.length + 1 = es.length := by rw [← hL]; exact pI ok.opn
 have hpn : ps.length = es.length := by have := congrArg List.length h.map; simpa using this
 have HPN := hid hpn
 have RE : Hid (jT V (.slice va L.length vc) L) := by show jT _ _ _; rw [← hL]; exact (iI h bb).ends
 rw [hL] at gV ⊢
 clear h he ok X0 Y0 hb0 hb1 sz0 sz1 g0 g1 e0 bb hL hpn
 obtain ⟨⟨x0, _⟩, ⟨x1, _⟩, ⟨x2, _⟩, ⟨x3, _⟩, sx⟩ := cp4 X.out
 go_enter Tryz.func26, Tryz.ntmps26
 simp only [hN]
 go_upto_block 0 with fail
 clear gV
 go_cut [5] from 10 to 25 (fun kv wc => wc = V ∧ ∃ k : Nat, kv = .int .i64 k ∧ k ≤ L.length ∧ Hid (∀ (j : Nat) (n : Int), j < k → L[j]? = some n → n ≤ at_) ∧ Hid (k = L.length ∨ ∃ n, L[k]? = some n ∧ at_ < n))
 case first =>
  go_wp2_with fail
  go_loop [5] (fun kv => ∃ k : Nat, k ≤ L.length ∧ kv = .int .i64 k ∧ Hid (∀ (j : Nat) (n : Int), j < k → L[j]? = some n → n ≤ at_)) (fun kv => L.length - (intOf kv).toNat)
  case atStart => exact ⟨0, Nat.zero_le _, rfl, fun j n h => absurd h (Nat.not_lt_zero _)⟩
  case round =>
   obtain ⟨k, hk, rfl, HJ⟩ := hrel
   by_cases hlt2 : k < L.length
   case neg =>
    have q : ¬ (k : Int) < (L.length : Int) := by omega
    clear hlt2
    go_wp2
    go_meet
    exact ⟨rfl, k, rfl, hk, HJ, .inl (by omega)⟩
   obtain ⟨n, hn⟩ : ∃ n, L[k]? = some n := ⟨_, q4G hlt2⟩
   obtain ⟨lb, lo, e1, hlb, hc⟩ := aN RE.out hn
   rw [e1] at x2
   have c0 : V.cell? ⟨lb, lo + k, none⟩ = some (.int .i64 n) := by have := hc 0 _ rfl; simpa using this
   have HN := hid hn
   have q : (k : Int) < (L.length : Int) := by omega
   clear hc hn
   by_cases hle2 : n ≤ at_
   case neg =>
    clear e1
    go_wp2
    go_meet
    exact ⟨rfl, k, rfl, hk, HJ, .inr ⟨n, HN.out, by omega⟩⟩
   clear e1
   go_wp2
   go_round
   case rel =>
    refine ⟨k + 1, by omega, by go_num, fun j x hj hx => ?_⟩
    rcases Nat.lt_or_ge j k with a | a
    ·exact HJ.out j x a hx
    ·have e : j = k := by omega
     rw [e, HN.out] at hx
     simp at hx
     omega
   case measure => simp [intOf]; omega
 case rest =>
 obtain ⟨hwc, k, rfl, hk, HJ, HD⟩ := hcut
 rw [hwc]
 clear hwc
 obtain ⟨x, hx⟩ : ∃ x, es[k]? = some x := ⟨_, q4G (by omega)⟩
 have EX : Hid (fM ⟨nm, es⟩ at_ = x) := by
  show _ = _
  unfold fM
  rw [Dp OK.out.opn hx (by rw [HL.out]; exact HJ.out) (by rw [HL.out]; exact HD.out)]
  rfl
 obtain ⟨p, hp⟩ : ∃ p, ps[k]? = some p := ⟨_, q4G (by have := HPN.out; omega)⟩
 have HP := hid hp
 have hpl : Hid (p.l = gF rs x) := by
  show _ = _
  have h1 : (ps.map TV.l)[k]? = some p.l := by rw [List.getElem?_map, hp]; rfl
  rw [H.out.map, List.getElem?_map, hx] at h1
  simp at h1
  exact h1.symm
 have hxm := List.mem_of_getElem? hx
 have hl9 : p.l.length ≤ 1000 := by rw [hpl.out]; exact OK.out.tl x hxm
 have HXM := hid hxm
 obtain ⟨eb, eo, e1, heb, hc⟩ := aN HE.out hx
 subst e1
 obtain ⟨c0, c1, c2, c3, c4, c5, c6, c7, c8, c9⟩ := sI hc
 have q : (k : Int) < (es.length : Int) := by omega
 obtain ⟨w1, g2, L0, hb2, sz2⟩ := aR V #[.int .i64 x.shift, af x.rules, .int .i64 x.save, af x.format, .bool x.opn, .int .i64 x.uy, .int .i64 x.um, .int .i64 x.ud, .int .i64 x.uat, .int .i64 x.uclock] 67
 obtain ⟨bE, hbE⟩ : ∃ b, V.heap.size = b := ⟨_, rfl⟩
 have LE : Hid (ag w1 bE [.int .i64 x.shift, af x.rules, .int .i64 x.save, af x.format, .bool x.opn, .int .i64 x.uy, .int .i64 x.um, .int .i64 x.ud, .int .i64 x.uat, .int .i64 x.uclock]) := hbE ▸ L0
 have X2 := hid (ah X.out hb2)
 have R2 := hid (ah R.out hb2)
 have B2 := hid (aL B.out (by omega) hb2)
 have H2 := hid (iI H.out hb2)
 have hE1 : ¬ bE = N + 1 := by omega
 have hE2 : N + 1 + 1 ≤ w1.heap.size := by omega
 clear hc hx hp hxm L0 hb2 sz2 HJ HD X R B H HE RE hLn x0 x2 x3
 have HE1 := hid hE1
 obtain ⟨l0, _⟩ := aa LE.out 0 rfl
 obtain ⟨l2, _⟩ := aa LE.out 2 rfl
 have sl := LE.out.1
 go_wp2_with fail
 clear g2 c0 c1 c2 c3 c4 c5 c6 c7 c8 c9 heb x1 sx hbE l0 l2 sl
 obtain ⟨tb, to_, e1, htb, hc⟩ := aN H2.out.row HP.out
 subst e1
 go_loopw [7, 8, 9] (fun sv lt iv wr => ∃ (i : Nat) (T : Sx.Tm), i ≤ p.l.length ∧ iv = .int .i64 i ∧ sv = .int .i64 T.save ∧ lt = af T.letter ∧ Hid (stT x.save at_ (p.l.take i) = T) ∧ Hid (Below w1.heap.size w1 wr)) (fun _ _ iv _ => p.l.length - (intOf iv).toNat)
 case atStart => exact ⟨0, ⟨0, x.save, []⟩, Nat.zero_le _, rfl, rfl, rfl, rfl, q4B _ _⟩
 case round =>
  obtain ⟨i, T, hi, rfl, rfl, rfl, HT, BR⟩ := hrel
  have X := hid (ah X2.out BR.out)
  have R := hid (ah R2.out BR.out)
  have B := hid (aL B2.out (by omega) BR.out)
  have E := hid (ah LE.out BR.out)
  obtain ⟨x3, _⟩ := aa X.out 3 rfl
  have sx := X.out.1
  have y0 : wr.cell? ⟨tb, to_ + k, none⟩ = some (.slice p.a p.l.length p.c) := by have := (BR.out.cell (p := ⟨tb, to_ + k * 1, none⟩) htb).trans (hc 0 _ rfl); simpa using this
  have htb2 := q4N htb BR.out.size
  have hpk : (k : Int) < (ps.length : Int) := by have := HPN.out; omega
  by_cases hlt : i < p.l.length
  case neg =>
   have e : p.l.take i = p.l := List.take_of_length_le (by omega)
   have HS : Hid (iR rs x at_ = T) := by show _ = _; rw [GQ (fun h => (OK.out.sv x HXM.out).2.2 h), ← hpl.out, ← HT.out, e]
   have q : ¬ (i : Int) < (p.l.length : Int) := by omega
   obtain ⟨s0, s1, s2⟩ := Hm OK.out HXM.out HS.out
   obtain ⟨f0, f1, f2⟩ := wO (OK.out.fm x HXM.out)
   have hsh := OK.out.sh x HXM.out
   obtain ⟨NM, hNM⟩ : ∃ M, jQ x.format T.save T.letter = M := ⟨_, rfl⟩
   have HNM := hid hNM
   have CN : Hid (∀ W, Calls Tryz.prog 64 #[af x.format, af T.letter, .int .i64 T.save] W fun e w' => e = .returned (af NM) ∧ Below W.heap.size W w') := fun W => by
    have := Gz ⟨x.format.toArray⟩ ⟨T.letter.toArray⟩ T.save W (by show x.format.length ≤ _; omega) (by show T.letter.length ≤ _; omega) (fun k hk => f1 k (by simpa using hk))
    simp only [List.toList_toArray] at this
    rw [Qg f2 s0, hNM] at this
    exact this
   have v1 : wrap64 (x.shift + T.save) = x.shift + T.save := by unfold wrap64; omega
   have v2 : IntKind.i64.wrap (x.shift + T.save) = x.shift + T.save := IntWalk.i64_in _ (by omega)
   obtain ⟨e0, _⟩ := aa E.out 0 rfl
   obtain ⟨e3, _⟩ := aa E.out 3 rfl
   have se := E.out.1
   have SS := hid (show wr.cell? ⟨bE, 0, none⟩ = some (.int .i64 x.shift) ∧ wr.cell? ⟨bE, 3, none⟩ = some (af x.format) from ⟨e0, e3⟩)
   have KS : Hid (∀ wz, Below wr.heap.size wr wz → (wz.cell? ⟨bE, 0, none⟩ = some (.int .i64 x.shift) ∧ wz.cell? ⟨bE, 3, none⟩ = some (af x.format))) := fun wz hb => ⟨(hb.cell (p := ⟨bE, 0, none⟩) se).trans e0, (hb.cell (p := ⟨bE, 3, none⟩) se).trans e3⟩
   have hBs := hid (B.out.size)
   clear hlt e hNM f1 f2 s1 s2 f0 e0 e3 se hc hE1
   go_upto_region 11 with fail
   have hE1 := HE1.out
   refine wp_region_held_drew (S := fun w' => w'.cell? ⟨bE, 0, none⟩ = some (.int .i64 x.shift) ∧ w'.cell? ⟨bE, 3, none⟩ = some (af x.format)) (by kernel_rfl) SS.out (fun hHeld => ?_)
   refine tkA 0 rfl ?_
   refine tkA 1 rfl ?_
   refine tkA 2 rfl ?_
   refine tkA 3 rfl ?_
   refine tkA 4 rfl ?_
   refine tkA 5 rfl ?_
   refine tkA 6 rfl ?_
   refine tkA 7 rfl ?_
   refine tkA 8 rfl ?_
   refine rdH 9 rfl fun K hK => ?_
   go_simp
   refine (CN.out wr.drew).mono ?_
   rintro e w10 ⟨rfl, hb10⟩
   have hb := bq hb10
   have S7 := KS.out w10 hb
   have T7 : ag w10 (N + 1) [.int .i64 0, .int .i64 0, .string ⟨#[]⟩] := ah R.out hb
   obtain ⟨⟨q0, k0⟩, ⟨q1, k1⟩, ⟨q2, k2⟩, sT⟩ := cp3 T7
   have B9 : Below N w _ := ax (ax (ax (aL B.out (by have := B.out.size; omega) hb) (Nat.le_succ N) 0 (.int .i64 (x.shift + T.save))) (Nat.le_succ N) 1 (.int .i64 T.save)) (Nat.le_succ N) 2 (af NM)
   have S9 := Ji (Ji (Ji S7 hE1 (k := 0) (u := .int .i64 (x.shift + T.save))) hE1 (k := 1) (u := .int .i64 T.save)) hE1 (k := 2) (u := af NM)
   refine hK.out _ _ ?_ (fun hHeld => ?_)
   ·exact S7
   clear hK K
   try simp only [Act.put, j]
   refine tkA 10 rfl ?_
   refine rdH 11 rfl fun K hK => ?_
   go_simp
   refine hK.out _ _ ?_ (fun hHeld => ?_)
   ·exact S9
   clear hK K
   try simp only [Act.put, j]
   refine wpAnyH_done (by kernel_rfl) ?_ _
   clear S7 S9 hHeld hb hb10 SS KS CN
   go_wp2
   refine bodyPost_ret (v := lcV ⟨x.shift + T.save, T.save, NM⟩) (by simp [results, Tryz.results26, go_sem, *]) rfl ⟨?_, B9⟩
   unfold aI
   rw [EX.out, HS.out, HNM.out]
  obtain ⟨t, ht⟩ : ∃ t, p.l[i]? = some t := ⟨_, q4G hlt⟩
  obtain ⟨qb, qo, e2, hqb, hcm⟩ := aN (au (H2.out.els p (List.mem_of_getElem? HP.out)) BR.out) ht
  rw [e2] at y0
  have m0 : wr.cell? ⟨qb, qo + i * 3, none⟩ = some (.int .i64 t.at_) := by have := hcm 0 _ rfl; simpa using this
  have m1 : wr.cell? ⟨qb, qo + i * 3 + 1, none⟩ = some (.int .i64 t.save) := hcm 1 _ rfl
  have m2 : wr.cell? ⟨qb, qo + i * 3 + 2, none⟩ = some (af t.letter) := hcm 2 _ rfl
  have q : (i : Int) < (p.l.length : Int) := by omega
  have hst : p.l.take (i + 1) = p.l.take i ++ [t] := by rw [List.take_add_one, ht]; rfl
  have HT2 : Hid (stT x.save at_ (p.l.take (i + 1)) = if t.at_ ≤ at_ then t else T) := by show _ = _; rw [hst, QN, HT.out]
  clear hcm ht hst e2 HT
  by_cases hle : t.at_ ≤ at_
  case neg =>
   have HT3 : Hid (stT x.save at_ (p.l.take (i + 1)) = T) := by show _ = _; rw [HT2.out, if_neg hle]
   go_wp2
   go_roundw
   case rel => exact ⟨i + 1, T, by omega, by go_num, rfl, rfl, HT3, BR⟩
   case measure => simp [intOf]; omega
  have HT3 : Hid (stT x.save at_ (p.l.take (i + 1)) = t) := by show _ = _; rw [HT2.out, if_pos hle]
  have SS := hid (show wr.cell? ⟨N, 3, none⟩ = some (.slice (some ⟨tb, to_, none⟩) ps.length tc) ∧ wr.cell? ⟨tb, to_ + k, none⟩ = some (.slice (some ⟨qb, qo, none⟩) p.l.length p.c) ∧ wr.cell? ⟨qb, qo + i * 3 + 1, none⟩ = some (.int .i64 t.save) ∧ wr.cell? ⟨qb, qo + i * 3 + 2, none⟩ = some (af t.letter) from ⟨x3, y0, m1, m2⟩)
  go_upto_region 10 with fail
  refine wp_region_held_drew (S := fun w' => w'.cell? ⟨N, 3, none⟩ = some (.slice (some ⟨tb, to_, none⟩) ps.length tc) ∧ w'.cell? ⟨tb, to_ + k, none⟩ = some (.slice (some ⟨qb, qo, none⟩) p.l.length p.c) ∧ w'.cell? ⟨qb, qo + i * 3 + 1, none⟩ = some (.int .i64 t.save) ∧ w'.cell? ⟨qb, qo + i * 3 + 2, none⟩ = some (af t.letter)) (by kernel_rfl) SS.out (fun hHeld => ?_)
  refine tkA 0 rfl ?_
  refine tkA 1 rfl ?_
  refine tkA 2 rfl ?_
  refine tkA 3 rfl ?_
  refine tkA 4 rfl ?_
  refine tkA 5 rfl ?_
  refine tkA 6 rfl ?_
  refine tkA 7 rfl ?_
  refine tkA 8 rfl ?_
  refine tkA 9 rfl ?_
  refine tkA 10 rfl ?_
  refine tkA 11 rfl ?_
  refine tkA 12 rfl ?_
  refine tkA 13 rfl ?_
  refine tkA 14 rfl ?_
  refine tkA 15 rfl ?_
  refine tkA 16 rfl ?_
  refine tkA 17 rfl ?_
  refine tkA 18 rfl ?_
  refine tkA 19 rfl ?_
  refine wpAnyH_done (by kernel_rfl) ?_ _
  have BR2 : Hid (Below w1.heap.size w1 wr.drew) := BR.out.trans ((show Below wr.heap.size wr wr.drew from ⟨rfl, rfl, rfl, Nat.le_refl _, fun _ _ => rfl⟩).mono BR.out.size)
  clear SS x3 sx y0 m0 m1 m2 hqb
  go_wp2
  go_roundw
  case rel => exact ⟨i + 1, t, by omega, by go_num, rfl, rfl, HT3, BR2⟩
  case measure => simp [intOf]; omega
end
namespace Pi
def SortI (l : List Int) : Prop := l.Pairwise fun a b => a ≤ b
def jE (l : List Int) (k : Nat) (t : Int) : List Int := l.take k ++ t :: l.drop k
theorem pV (l : List Int) (k : Nat) (t : Int) : (jE l k t).length = l.length + 1 := by
 unfold jE
 rw [List.length_append, List.length_cons, ← Nat.add_assoc, ← List.length_append, List.take_append_drop]
theorem Qu (l : List Int) (t : Int) : jE l l.length t = l ++ [t] := by unfold jE; rw [List.take_length, List.drop_length]
theorem Nn (l : List Int) (k : Nat) (t : Int) : (jE l k t).Perm (l ++ [t]) := by
 unfold jE
 refine List.perm_middle.trans ?_
 rw [List.take_append_drop]
 exact (List.perm_append_singleton t l).symm
theorem Ll {l : List Int} {k : Nat} (t : Int) (h : k ≤ l.length) : (jE l k t)[k]? = some t := by
 unfold jE
 rw [List.getElem?_append_right (by rw [List.length_take]; omega), List.length_take, Nat.min_eq_left h, Nat.sub_self]
 rfl
theorem zO {l : List Int} {k : Nat} (t : Int) (h : k + 1 ≤ l.length) : (jE l (k + 1) t)[k]? = l[k]? := by
 unfold jE
 rw [List.getElem?_append_left (by rw [List.length_take]; omega), List.getElem?_take]
 rw [if_pos (by omega)]
theorem Np {l : List Int} {k : Nat} {t x : Int} (h : l[k]? = some x) : ((jE l (k + 1) t).set (k + 1) x).set k t = jE l k t := by
 have hk : k < l.length := (q4L.1 h).1
 have e1 : l.take (k + 1) = l.take k ++ [x] := by rw [List.take_add_one, h]; rfl
 have e2 : l.drop k = x :: l.drop (k + 1) := by rw [List.drop_eq_getElem_cons hk]; rw [q4G hk] at h; simp at h; rw [h]
 unfold jE
 rw [e1, e2]
 have lk : (l.take k).length = k := by rw [List.length_take]; omega
 rw [List.append_assoc, List.set_append_right _ _ (by omega), lk, List.set_append_right _ _ (by omega), lk]
 simp
theorem Gw {l : List Int} {k : Nat} {t : Int} (hs : SortI l) (h1 : ∀ j x, k ≤ j → l[j]? = some x → t < x) (h2 : ∀ x, 0 < k → l[k - 1]? = some x → x ≤ t) (hk : k ≤ l.length) : SortI (jE l k t) := by
 unfold jE SortI
 have hs' : (l.take k ++ l.drop k).Pairwise (fun a b : Int => a ≤ b) := by rw [List.take_append_drop]; exact hs
 obtain ⟨a1, a2, a3⟩ := List.pairwise_append.1 hs'
 refine List.pairwise_append.2 ⟨a1, List.pairwise_cons.2 ⟨fun x hx => ?_, a2⟩, fun x hx y hy => ?_⟩
 ·obtain ⟨j, hj⟩ := List.mem_iff_getElem?.1 hx
  rw [List.getElem?_drop] at hj
  have := h1 (k + j) x (by omega) hj
  omega
 ·rcases List.mem_cons.1 hy with rfl | hy
  ·have hk0 : 0 < k := by
    rcases Nat.eq_zero_or_pos k with q | q
    ·rw [q] at hx; simp at hx
    ·exact q
   obtain ⟨j, hj⟩ := List.mem_iff_getElem?.1 hx
   rw [List.getElem?_take] at hj
   split at hj
   ·rename_i jk
    have hz := q4G (l := l) (i := k - 1) (by omega)
    have b := h2 _ hk0 hz
    rcases Nat.lt_or_ge j (k - 1) with c | c
    ·have hjl := (q4L.1 hj).1
     have := List.pairwise_iff_getElem.1 hs j (k - 1) hjl (by omega) c
     have ej : l[j] = x := (q4L.1 hj).2
     rw [ej] at this
     omega
    ·have : j = k - 1 := by omega
     subst this
     rw [hz] at hj
     simp at hj
     rw [← hj]; exact b
   ·cases hj
  ·exact a3 x hx y hy
theorem uF {l S : List Int} {k : Nat} {t : Int} (j : Nat) (h : j ≤ l.length) : (jE l k t ++ S)[j]? = (jE l k t)[j]? :=
 List.getElem?_append_left (by rw [pV]; omega)
theorem JO {l S : List Int} {k : Nat} {t x : Int} (h : l[k]? = some x) : ((jE l (k + 1) t ++ S).set (k + 1) x).set k t = jE l k t ++ S := by
 have hk : k < l.length := (q4L.1 h).1
 rw [List.set_append_left _ _ (by rw [pV]; omega), List.set_append_left _ _ (by rw [List.length_set, pV]; omega), Np h]
theorem NN {P S A : List Int} {t : Int} {q : Nat} (hp : (P ++ t :: S).Perm A) : (jE P q t ++ S).Perm A :=
 ((Nn P q t).append_right S).trans (by rw [List.append_assoc]; exact hp)
end Pi
section
open Go.RowKit Go.Shelf
theorem mX {w : World} {B g cap n : Nat} {l : List Int} (h : bK w B (.slice (some ⟨g, 0, none⟩) n cap) l) {j : Nat} {x : Int} (hx : l[j]? = some x) : w.cell? ⟨g, j, none⟩ = some (.int .i64 x) ∧ w.frozen? ⟨g, j, none⟩ = false ∧ g < w.heap.size := by
 have hn : n = l.length := by have := h.1; obtain ⟨b, cap', cur, e, _⟩ := h.2.resolve_left (fun q => by cases q.1); simp at e; exact e.2.1
 subst hn
 obtain ⟨b, o, e1, hb, hc⟩ := aN (jY h) hx
 simp only [Option.some.injEq, Addr.mk.injEq] at e1
 obtain ⟨rfl, rfl, _⟩ := e1
 have h0 := hc 0 _ rfl
 have hj : j + 1 ≤ (l.map (Value.int .i64)).length := by have := (q4L.1 hx).1; rw [List.length_map]; omega
 have ht := Cm (o := j) (k := 1) h hj 0 (by omega)
 simp only [Nat.zero_add, Nat.mul_one, Nat.add_zero] at h0 ht
 exact ⟨h0, ht.2, hb⟩
theorem Fg {w : World} {B g cap n : Nat} {l : List Int} (h : bK w B (.slice (some ⟨g, 0, none⟩) n cap) l) (j : Nat) (x : Int) : bK (w.setCell ⟨g, j, none⟩ (.int .i64 x)) B (.slice (some ⟨g, 0, none⟩) n cap) (l.set j x) := by
 have hn : n = l.length := by obtain ⟨b, cap', cur, e, _⟩ := h.2.resolve_left (fun q => by cases q.1); simp at e; exact e.2.1
 subst hn
 have := Gp (j := j) h (.int .i64 x)
 show World.ownsRow _ _ _ _ _ _ _
 rw [List.length_set, List.map_set]
 exact this
theorem Ea {w : World} {a : Option Addr} {n cap : Nat} {l : List Int} (h : jT w (.slice a n cap) l) : ∀ ad, a = some ad → ∀ j u, (l.map (Value.int .i64))[j]? = some u → w.cell? (ad.add j) = some u := by
 intro ad e j u hj
 subst e
 rw [List.getElem?_map] at hj
 obtain ⟨x, hx, rfl⟩ := Option.map_eq_some_iff.1 hj
 obtain ⟨b, o, cap', e1, hb, hc⟩ := vO h hx
 simp only [Value.slice.injEq, Option.some.injEq] at e1
 rw [e1.1]
 unfold Addr.add
 split
 ·rename_i q
  have q' : j = 0 := by simpa using q
  subst q'
  simpa using hc
 ·exact hc
theorem GD {w : World} {a : Option Addr} {n cap : Nat} {l : List Int} (h : jT w (.slice a n cap) l) : a = none → n = 0 := by
 intro e
 subst e
 obtain ⟨a', cap', e1, h2⟩ := h
 simp only [Value.slice.injEq] at e1
 obtain ⟨rfl, rfl, _⟩ := e1
 by_cases hn : l = []
 ·rw [hn]; rfl
 ·obtain ⟨b, o, e2, _⟩ := h2 hn
  cases e2
theorem RB (l : List Int) : ∀ u ∈ l.map (Value.int .i64), u.oneCell' = true := by
 intro u hu
 obtain ⟨x, _, rfl⟩ := List.mem_map.1 hu
 rfl
/- what is wrong, change by change -/
def jM (F : Tb.Lc) (out : List Tb.Cg) : Int := if (!aW F.name || out.any nameless) = true then 1 else 0
theorem Iz (F : Tb.Lc) : jM F [] = if aW F.name = true then 0 else 1 := by unfold jM; cases aW F.name <;> rfl
theorem LF (F : Tb.Lc) (out : List Tb.Cg) (c : Tb.Cg) : jM F (out ++ [c]) = if jM F out = 0 then (if aW c.lc.name = true then 0 else 1) else jM F out := by
 unfold jM
 rw [List.any_append]
 have : [c].any nameless = !aW c.lc.name := by simp [nameless]
 rw [this]
 cases aW F.name <;> cases out.any nameless <;> cases aW c.lc.name <;> rfl
theorem Rj (F : Tb.Lc) (out : List Tb.Cg) : jM F out = 0 ∨ jM F out = 1 := by unfold jM; split <;> simp
theorem RJ (F : Tb.Lc) (out : List Tb.Cg) : mkE ⟨F, out⟩ = if jM F out = 0 then (if 1000 < out.length then 2 else 0) else jM F out := by
 unfold mkE jM
 cases q : (!aW F.name || out.any nameless)
 ·simp
 ·simp
theorem wT {l : Tb.Lc} (h1 : -75600 ≤ l.shift ∧ l.shift ≤ 75600) (h2 : 0 ≤ l.save ∧ l.save ≤ 10800) : Tb.aI l = if aW l.name = true then 0 else 1 := by
 unfold Tb.aI aW
 rw [if_neg]
 ·cases (!l.name.isEmpty && decide (l.name.length ≤ 24) && Sx.aU l.name) <;> rfl
 ·simp [Sx.inB]; omega
theorem P5 {rs : List Sx.Rl} {z : Sx.Zn} (ok : Ou rs z.eras) (a : Int) : (-75600 ≤ (aI rs z a).shift ∧ (aI rs z a).shift ≤ 75600) ∧ (0 ≤ (aI rs z a).save ∧ (aI rs z a).save ≤ 10800) ∧ (aI rs z a).name.length ≤ 2000000 := by
 rcases OV z a with q | q
 ·unfold aI
  rw [q]
  have e : iR rs zeroE a = ⟨0, 0, []⟩ := rfl
  rw [e]
  refine ⟨by decide, by decide, ?_⟩
  show (jQ zeroE.format 0 []).length ≤ _
  have := vJ zeroE.format 0 []
  simp [zeroE] at this
  simp [zeroE, this]
 ·obtain ⟨s0, s1, s2⟩ := Hm (at_ := a) ok q rfl
  have hsh := ok.sh _ q
  have hf := (wO (ok.fm _ q)).1
  have hn := vJ (fM z a).format (iR rs (fM z a) a).save (iR rs (fM z a) a).letter
  unfold aI
  dsimp only
  refine ⟨by omega, ⟨s0, s1⟩, by omega⟩
theorem Mx {c d : Tb.Lc} (h : ¬ c = d) : ¬ c.shift = d.shift ∨ (c.shift = d.shift ∧ ¬ c.save = d.save) ∨ (c.shift = d.shift ∧ c.save = d.save ∧ ¬ c.name = d.name) := by
 obtain ⟨a2, a3, a4⟩ := c
 obtain ⟨b2, b3, b4⟩ := d
 by_cases q2 : a2 = b2 <;> by_cases q3 : a3 = b3 <;> by_cases q4 : a4 = b4 <;> simp_all
theorem FK (f : Tb.Lc) (ch : List Tb.Cg) (c : Tb.Cg) : kF f (ch ++ [c]) = c.lc := by simp [kF]
/- a table that is made: what is shown first, what was shown last, the changes -/
structure uY (w5 : World) (M5 TT WB M6 : Nat) (F W : Tb.Lc) (cv : Value) (out : List Tb.Cg) (wr : World) : Prop where
 bel : Below M5 w5 wr
 t : ag wr TT [.int .i64 F.shift, .int .i64 F.save, af F.name, cv]
 was : ag wr WB [.int .i64 W.shift, .int .i64 W.save, af W.name]
 own : ma wr M6 cv out
 ord : M5 ≤ TT ∧ TT < WB ∧ WB < M6 ∧ M6 ≤ wr.heap.size
section
variable {w5 : World} {M5 TT WB M6 : Nat} {F W : Tb.Lc} {cv v' : Value} {out : List Tb.Cg} {wr w' w9 : World}
theorem uN (H : uY w5 M5 TT WB M6 F W cv out wr) (hb : Below wr.heap.size wr w') : uY w5 M5 TT WB M6 F W cv out w' := by
 obtain ⟨h1, h2, h3, h4, h5, h6, h7, h8⟩ := H
 exact ⟨aL h1 (by omega) hb, ah h2 hb, ah h3 hb, aJ h4 hb, h5, h6, h7, Nat.le_trans h8 hb.size⟩
theorem Ab {n : Nat} {o : Obj} {xs : List Value} (H : uY w5 M5 TT WB M6 F W cv out wr) (hown : w9.ownsRow M6 86 4 v' n xs) (hg : (wr.alloc o).grownBy w9 cv.ownBlock) :
  Below M5 w5 w9 ∧ ag w9 TT [.int .i64 F.shift, .int .i64 F.save, af F.name, cv] ∧ ag w9 WB [.int .i64 W.shift, .int .i64 W.save, af W.name] ∧ M6 ≤ w9.heap.size := by
 obtain ⟨h1, h2, h3, h4, h5, h6, h7, h8⟩ := H
 have ne : ∀ X, X < M6 → ∀ k, cv.ownBlock = some k → k ≠ X := fun X hX k hk => by have := (h4.lt k hk).1; omega
 have hz := hg.size
 simp at hz
 exact ⟨Below.grown (h1.alloc (by omega) _) hg (by simp; omega) (fun k hk => by have := (h4.lt k hk).1; omega), ca_grownO (aH h2 _) hg (ne _ (by omega)), ca_grownO (aH h3 _) hg (ne _ (by omega)), by omega⟩
theorem QR {n : Nat} {o : Obj} {xs : List Value} (H : uY w5 M5 TT WB M6 F W cv out wr) (hown : w9.ownsRow M6 86 4 v' n xs) (hg : (wr.alloc o).grownBy w9 cv.ownBlock) :
  ∃ ta tc, v' = .slice ta n tc ∧ w9.cell? ⟨TT, 3, none⟩ = some cv ∧ w9.frozen? ⟨TT, 3, none⟩ = false ∧ TT < w9.heap.size := by
 obtain ⟨ta, tc, rfl⟩ := aF hown
 obtain ⟨_, t, _⟩ := Ab H hown hg
 obtain ⟨g1, g2⟩ := aa t 3 rfl
 exact ⟨ta, tc, rfl, g1, g2, t.1⟩
theorem QQ {o : Obj} {c : Tb.Cg} {ta : Option Addr} {tc : Nat} (H : uY w5 M5 TT WB M6 F W cv out wr) (hown : w9.ownsRow M6 86 4 (.slice ta (out.length + 1) tc) (out.length + 1) (out.flatMap bB ++ bB c)) (hg : (wr.alloc o).grownBy w9 cv.ownBlock) :
  uY w5 M5 TT WB M6 F W (.slice ta (out.length + 1) tc) (out ++ [c]) (w9.setCell ⟨TT, 3, none⟩ (.slice ta (out.length + 1) tc)) := by
 obtain ⟨g1, g2, g3, g4⟩ := Ab H hown hg
 obtain ⟨h1, h2, h3, h4, h5, h6, h7, h8⟩ := H
 refine ⟨aB g1 (by omega) _, aS g2 3 _ (by simp), bz g3 (by omega), ?_, h5, h6, h7, by simpa using g4⟩
 refine ownsRow_setCell_other ?_ (fun q => ?_) _
 ·show World.ownsRow _ _ _ _ _ _ _; simpa using hown
 ·have : M6 ≤ TT := (hown.lt _ q).1; omega
theorem QS (H : uY w5 M5 TT WB M6 F W cv out wr) (D : Tb.Lc) : uY w5 M5 TT WB M6 F D cv out (((wr.setCell ⟨WB, 0, none⟩ (.int .i64 D.shift)).setCell ⟨WB, 1, none⟩ (.int .i64 D.save)).setCell ⟨WB, 2, none⟩ (af D.name)) := by
 obtain ⟨h1, h2, h3, h4, h5, h6, h7, h8⟩ := H
 have ne : ¬ TT = WB := by omega
 have no : cv.ownBlock ≠ some WB := fun q => by have := (h4.lt _ q).1; omega
 refine ⟨ax (ax (ax h1 (by omega) _ _) (by omega) _ _) (by omega) _ _, bz (bz (bz h2 ne) ne) ne, ?_, ownsRow_setCell_other (ownsRow_setCell_other (ownsRow_setCell_other h4 no _) no _) no _, h5, h6, h7, by simpa using h8⟩
 have := aS (aS (aS h3 0 (.int .i64 D.shift) (by simp)) 1 (.int .i64 D.save) (by simp)) 2 (af D.name) (by simp)
 simpa using this
theorem Ui {o : Obj} {X : Nat} {vs : List Value} (H : uY w5 M5 TT WB M6 F W cv out wr) (hX : ag wr X vs) (hne : ∀ g, cv.ownBlock = some g → g ≠ X) (hg : (wr.alloc o).grownBy w9 cv.ownBlock) : ag w9 X vs :=
 ca_grownO (aH hX _) hg hne
end
end
end Go.Proofs.YtkhlkohlccndgaaGreat
