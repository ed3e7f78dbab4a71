/- Part of the proof: Iv Bz Ck ItA ItC ShT So RtP TmP Tms TmM Tml Tb TbM Zn Ea Eb Ia. -/
import Derived.Test.YtkhlkohlccndgaaGreatQz
import Derived.Test.YtkhlkohlccndgaaGreatQai
import Derived.Test.YtkhlkohlccndgaaGreatQaa
import Derived.RangeFuncCalls
import Derived.OrdersIn
import Derived.OrdersHeld
import Derived.OwnWalkIn
import Derived.OwnWalk
import Derived.Deep.RegionHeld3
import Derived.Maps.AppendAt
import Derived.Shelf.SlSortCmp.NoneTotal
import Derived.Test.YtkhlkohlccndgaaGreatProg
import Derived.Test.YtkhlkohlccndgaaGreatQah
import Derived.Deep.MidRow
import Derived.Deep.RegionHeld
import Derived.Deep.DeepAppendWide
set_option linter.unusedVariables false
set_option linter.unusedSimpArgs false
set_option maxRecDepth 100000
set_option maxHeartbeats 16000000
namespace Go.Proofs.YtkhlkohlccndgaaGreat
section
open Go.RowKit Go.Shelf
attribute [local go_sem] Oper.semAt_some

/- zones with the slices of their eras -/
structure ZV where
 z : Sx.Zn
 a : Option Addr
 c : Nat
abbrev zvS (p : ZV) : Value := .slice p.a p.z.eras.length p.c
def aJ (p : ZV) : List Value := [ag p.z.name, .slice p.a p.z.eras.length p.c]
abbrev zvV (p : ZV) : Value := .agg #[ag p.z.name, .slice p.a p.z.eras.length p.c]
structure jr (w : World) (v : Value) (zs : List Sx.Zn) (ps : List ZV) : Prop where
 fst : ps.map ZV.z = zs
 rd : Rd 2 aJ w v ps
 eras : ∀ p ∈ ps, gQ w (.slice p.a p.z.eras.length p.c) p.z.eras
 cap : ∀ p ∈ ps, p.z.eras.length ≤ p.c
def Ad (p : Sx.Zn × Value) : ZV := match p.2 with
 | .slice a _ c => ⟨p.1, a, c⟩
 | _ => ⟨p.1, none, 0⟩
theorem LU (p : Sx.Zn × Value) : (Ad p).z = p.1 := by unfold Ad; split <;> rfl
theorem Kn {w : World} {v : Value} {zs : List Sx.Zn} (h : fE w v zs) (hc : oL w v zs) : ∃ ps, jr w v zs ps := by
 obtain ⟨vs, h1, h2, h3⟩ := h
 obtain ⟨a, cap, e1, e2⟩ := h2
 have hl : ((zs.zip vs).map fun p => (p.1.name, p.2)).length = zs.length := by simp [h1]
 have hpl : ((zs.zip vs).map Ad).length = zs.length := by simp [h1]
 have at_ : ∀ (i : Nat) (p : ZV), ((zs.zip vs).map Ad)[i]? = some p → ∃ ev, vs[i]? = some ev ∧ zs[i]? = some p.z ∧ ev = .slice p.a p.z.eras.length p.c := by
  intro i p hp
  rw [List.getElem?_map] at hp
  cases q : (zs.zip vs)[i]? with
  | none => rw [q] at hp; cases hp
  | some zv =>
    rw [q] at hp
    obtain ⟨z, ev⟩ := zv
    obtain ⟨a1, a2⟩ := List.getElem?_zip_eq_some.1 q
    obtain ⟨ea, ec, rfl⟩ := bP (h3 i ev z a2 a1)
    simp [Ad] at hp
    subst hp
    exact ⟨_, a2, a1, rfl⟩
 have ne_of : ∀ {i : Nat} {p : ZV}, ((zs.zip vs).map Ad)[i]? = some p → (zs.zip vs).map (fun p => (p.1.name, p.2)) ≠ [] := by
  intro i p hp q
  have h0 := congrArg List.length q
  have h1' := (q4L.1 hp).1
  rw [hl, List.length_nil] at h0
  rw [hpl, h0] at h1'
  exact absurd h1' (Nat.not_lt_zero _)
 have cell : ∀ (i : Nat) (p : ZV), ((zs.zip vs).map Ad)[i]? = some p → ((zs.zip vs).map fun p => (p.1.name, p.2))[i]? = some (p.z.name, .slice p.a p.z.eras.length p.c) := by
  intro i p hp
  obtain ⟨ev, a1, a2, rfl⟩ := at_ i p hp
  rw [List.getElem?_map, (List.getElem?_zip_eq_some (z := (p.z, .slice p.a p.z.eras.length p.c))).2 ⟨a2, a1⟩]; rfl
 refine ⟨(zs.zip vs).map Ad, ?_, ⟨a, cap, by rw [e1, hl, hpl], fun hn => ?_⟩, fun p hp => ?_, fun p hp => ?_⟩
 ·rw [List.map_map]
  have : (ZV.z ∘ Ad) = Prod.fst := by funext p; exact LU p
  rw [this]
  exact List.map_fst_zip (by omega)
 ·obtain ⟨b, o, q1, q2, q3⟩ := e2 (by intro q; apply hn; have h0 := congrArg List.length q; rw [hl] at h0; exact List.length_eq_zero_iff.1 (by rw [hpl]; simpa using h0))
  exact ⟨b, o, q1, q2, fun i x hx k u hu => q3 i _ (cell i x hx) k u hu⟩
 ·obtain ⟨i, hi⟩ := List.mem_iff_getElem?.1 hp
  obtain ⟨ev, a1, a2, rfl⟩ := at_ i p hi
  exact h3 i _ _ a1 a2
 ·obtain ⟨i, hi⟩ := List.mem_iff_getElem?.1 hp
  obtain ⟨ev, a1, a2, rfl⟩ := at_ i p hi
  obtain ⟨b, o, q1, q2, q3⟩ := e2 (ne_of hi)
  obtain ⟨a', c', q4, q5⟩ := hc i p.z b o cap a2 (by rw [e1, q1, hl]) (.slice p.a p.z.eras.length p.c) (q3 i _ (cell i p hi) 1 _ rfl)
  simp at q4
  omega
theorem fK {w w' : World} {v : Value} {zs : List Sx.Zn} {ps : List ZV} (h : jr w v zs ps) (hb : Below w.heap.size w w') : jr w' v zs ps :=
 ⟨h.fst, au h.rd hb, fun p hp => au (h.eras p hp) hb, h.cap⟩
theorem lh {w : World} {v : Value} {zs : List Sx.Zn} {ps : List ZV} (h : jr w v zs ps) : ps.length = zs.length := by rw [← h.fst]; simp
theorem lI {β : Type} {J : β → World → Prop} (h : lG J) {s : β} {W : World} (hs : J s W) (o : Obj) : J s (W.alloc o) := h s W o hs
theorem JK (Kp : World → World → Prop) (n l Bo : Nat) (hn : 1 ≤ n) (xs : List Sx.Lk) (ra : Option Addr) (rcap : Nat) (W : World) (h : ∀ A, Kp W A → fe A (.slice ra xs.length rcap) xs) (hxs : xs.length ≤ 10000)
  (cl : W.cell? ⟨Bo, 0, none⟩ = some (.slice ra xs.length rcap)) (hBo : Bo < W.heap.size) (hW : Kp W W) (hKt : ∀ A B C, Kp A B → Kp B C → Kp A C) (hKa : ∀ A o, Kp W A → Kp A (A.alloc o))
  (J Jx : List Sx.Lk → World → Prop) (hJ : lG J)
  (hY : ∀ pre x W1, J pre W1 → pre ++ [x] <+: xs → YieldAt Fence.wide (n - 1) Tryz.prog l #[jA x] W1 fun e W' => (e = .returned (.bool true) ∧ J (pre ++ [x]) W' ∧ Kp W1 W') ∨ (e = .returned (.bool false) ∧ Jx (pre ++ [x]) W'))
  (h0 : J [] W) :
  CallsIn Fence.wide n Tryz.prog 160 #[.func (.yield l) #[] #[], .pointer (some ⟨Bo, 0, none⟩)] W fun e W' => (∃ v, e = .returned v) ∧ ((∃ ys, ys = xs ∧ J ys W') ∨ (∃ pre, pre <+: xs ∧ Jx pre W')) := by
 have HY := hid hY
 have HJ := hid hJ
 have H := hid h
 have J0 : Hid (J (xs.take 0) W) := h0
 have B0 := hid hW
 have HT := hid hKt
 have HA := hid hKa
 clear hY hJ h h0 hW hKt hKa
 refine callsIn_of_wp Tryz.func160 rfl trivial ?_ rfl
 simp only [Tryz.ntmps160, List.size_toArray, List.length_cons, List.length_nil, Nat.reduceAdd, Nat.reduceSub, Array.replicate_succ, Array.replicate_zero, List.push_toArray, List.append_toArray, List.nil_append, List.cons_append]
 gi_wp2
 clear cl hBo
 gi_loopw [7] (fun a wr => ∃ i : Nat, i ≤ xs.length ∧ a = .int .i64 i ∧ Hid (J (xs.take i) wr) ∧ Hid (Kp W wr)) (fun a _ => xs.length - (intOf a).toNat)
 case atStart => exact ⟨0, Nat.zero_le _, rfl, J0, B0⟩
 case round =>
  clear J0 B0
  obtain ⟨i, hi, rfl, JS, B0⟩ := hrel
  by_cases hlt : i < xs.length
  case neg =>
   have e : xs.take i = xs := List.take_of_length_le (by omega)
   rw [e] at JS
   gi_wp2
   go_end0
   exact ⟨⟨_, rfl⟩, .inl ⟨_, rfl, JS.out⟩⟩
  obtain ⟨x, hx⟩ : ∃ x, xs[i]? = some x := ⟨_, q4G hlt⟩
  obtain ⟨rb, ro, rfl, hrb, hc⟩ := dx (H.out wr B0.out) hx
  obtain ⟨c0, c1⟩ := ui hc
  have HL : Hid (xs.take (i + 1) = xs.take i ++ [x]) := Sx.dm hx
  have PX : Hid (xs.take i ++ [x] <+: xs) := by show _ <+: _; rw [← HL.out]; exact List.take_prefix _ _
  have J2 : Hid (J (xs.take i) (wr.alloc (.cells #[ag x.to, ag x.name] 35))) := lI HJ.out JS.out _
  have B2 : Hid (Kp W (wr.alloc (.cells #[ag x.to, ag x.name] 35))) := HT.out _ _ _ B0.out (HA.out _ _ B0.out)
  clear hc hx
  obtain ⟨fn, tmps, assign, body, hy, hR⟩ := HY.out _ x (wr.alloc (.cells #[ag x.to, ag x.name] 35)) J2.out PX.out
  try dsimp only at hy
  have HR := hid hR
  clear hR
  gi_wp2
  refine HR.out.mono ?_
  clear HR hy JS B0 J2 hrb
  rintro e W3 (⟨rfl, hJ3, hk3⟩ | ⟨rfl, hJx3⟩)
  ·have B3 : Hid (Kp W W3) := HT.out _ _ _ B2.out hk3
   have JN : Hid (J (xs.take (i + 1)) W3) := by show J _ _; rw [HL.out]; exact hJ3
   clear hJ3 hk3 B2
   gi_wp2
   go_roundw
   case rel => exact ⟨i + 1, by omega, by go_num, JN, B3⟩
   case measure => simp [intOf]; omega
  ·gi_wp2
   refine bodyPost_ret (results_none rfl _ _ _) rfl ?_
   exact ⟨⟨_, rfl⟩, .inr ⟨_, PX.out, hJx3⟩⟩
theorem Hd (Kp : World → World → Prop) (n Bo : Nat) (hn : 1 ≤ n) (xs : List Sx.Lk) (ra : Option Addr) (rcap : Nat) (w : World) (h : ∀ W A, Below w.heap.size w W → Kp W A → fe A (.slice ra xs.length rcap) xs) (hxs : xs.length ≤ 10000)
  (cl : w.cell? ⟨Bo, 0, none⟩ = some (.slice ra xs.length rcap)) (hBo : Bo < w.heap.size) (hr : ∀ W, Below w.heap.size w W → Kp W W) (hKt : ∀ A B C, Kp A B → Kp B C → Kp A C) (hKa : ∀ W A o, Below w.heap.size w W → Kp W A → Kp A (A.alloc o)) :
  mM Fence.wide n Tryz.prog 160 #[.pointer (some ⟨Bo, 0, none⟩)] (fun x : Sx.Lk => #[jA x]) Kp (fun ys => ys = xs) (fun pre => pre <+: xs) w :=
 fun l J Jx W hW1 hJ hJx hY h0 => JK Kp n l Bo hn xs ra rcap W (fun A => h W A hW1) hxs ((hW1.cell (p := ⟨Bo, 0, none⟩) hBo).trans cl) (q4N hBo hW1.size) (hr W hW1) hKt (fun A o => hKa W A o hW1) J Jx hJ hY h0
theorem yK (n Bo : Nat) (hn : 1 ≤ n) (xs : List Sx.Lk) (ra : Option Addr) (rcap : Nat) (W0 w : World) (h : fe W0 (.slice ra xs.length rcap) xs) (hxs : xs.length ≤ 10000)
  (cl : w.cell? ⟨Bo, 0, none⟩ = some (.slice ra xs.length rcap)) (hBo : Bo < w.heap.size) (hW : Below W0.heap.size W0 w) :
  mM Fence.wide n Tryz.prog 160 #[.pointer (some ⟨Bo, 0, none⟩)] (fun x : Sx.Lk => #[jA x]) (Below W0.heap.size) (fun ys => ys = xs) (fun pre => pre <+: xs) w :=
 Hd _ n Bo hn xs ra rcap w (fun W A h1 h2 => au h (hW.trans ((h1.mono hW.size).trans h2))) hxs cl hBo (fun W _ => q4B _ _) (fun _ _ _ a b => a.trans b) (fun W A o h1 h2 => (q4B _ _).alloc (Nat.le_trans hW.size (Nat.le_trans h1.size h2.size)) _)
theorem yJ (ra : Option Addr) (n rcap : Nat) (w : World) :
  Calls Tryz.prog 104 #[.slice ra n rcap] w fun e w' => e = .returned (.func (.func 160) #[] #[.pointer (some ⟨w.heap.size, 0, none⟩)]) ∧ w' = w.alloc (.cells #[.slice ra n rcap] 24) := by
 go_enter Tryz.func104, Tryz.ntmps104
 go_wp2
 go_ret
 exact ⟨rfl, rfl⟩
theorem JM (Kp : World → World → Prop) (n l Bo : Nat) (hn : 1 ≤ n) (xs : List ZV) (ra : Option Addr) (rcap : Nat) (W : World) (h : ∀ A, Kp W A → Rd 2 aJ A (.slice ra xs.length rcap) xs) (hxs : xs.length ≤ 10000)
  (cl : W.cell? ⟨Bo, 0, none⟩ = some (.slice ra xs.length rcap)) (hBo : Bo < W.heap.size) (hW : Kp W W) (hKt : ∀ A B C, Kp A B → Kp B C → Kp A C) (hKa : ∀ A o, Kp W A → Kp A (A.alloc o))
  (J Jx : List ZV → World → Prop) (hJ : lG J)
  (hY : ∀ pre x W1, J pre W1 → pre ++ [x] <+: xs → YieldAt Fence.wide (n - 1) Tryz.prog l #[zvV x] W1 fun e W' => (e = .returned (.bool true) ∧ J (pre ++ [x]) W' ∧ Kp W1 W') ∨ (e = .returned (.bool false) ∧ Jx (pre ++ [x]) W'))
  (h0 : J [] W) :
  CallsIn Fence.wide n Tryz.prog 161 #[.func (.yield l) #[] #[], .pointer (some ⟨Bo, 0, none⟩)] W fun e W' => (∃ v, e = .returned v) ∧ ((∃ ys, ys = xs ∧ J ys W') ∨ (∃ pre, pre <+: xs ∧ Jx pre W')) := by
 have HY := hid hY
 have HJ := hid hJ
 have H := hid h
 have J0 : Hid (J (xs.take 0) W) := h0
 have B0 := hid hW
 have HT := hid hKt
 have HA := hid hKa
 clear hY hJ h h0 hW hKt hKa
 refine callsIn_of_wp Tryz.func161 rfl trivial ?_ rfl
 simp only [Tryz.ntmps161, List.size_toArray, List.length_cons, List.length_nil, Nat.reduceAdd, Nat.reduceSub, Array.replicate_succ, Array.replicate_zero, List.push_toArray, List.append_toArray, List.nil_append, List.cons_append]
 gi_wp2
 clear cl hBo
 gi_loopw [7] (fun a wr => ∃ i : Nat, i ≤ xs.length ∧ a = .int .i64 i ∧ Hid (J (xs.take i) wr) ∧ Hid (Kp W wr)) (fun a _ => xs.length - (intOf a).toNat)
 case atStart => exact ⟨0, Nat.zero_le _, rfl, J0, B0⟩
 case round =>
  clear J0 B0
  obtain ⟨i, hi, rfl, JS, B0⟩ := hrel
  by_cases hlt : i < xs.length
  case neg =>
   have e : xs.take i = xs := List.take_of_length_le (by omega)
   rw [e] at JS
   gi_wp2
   go_end0
   exact ⟨⟨_, rfl⟩, .inl ⟨_, rfl, JS.out⟩⟩
  obtain ⟨x, hx⟩ : ∃ x, xs[i]? = some x := ⟨_, q4G hlt⟩
  obtain ⟨rb, ro, rfl, hrb, hc⟩ := dx (H.out wr B0.out) hx
  have c0 : wr.cell? ⟨rb, ro + i * 2, none⟩ = some (ag x.z.name) := hc 0 _ rfl
  have c1 : wr.cell? ⟨rb, ro + i * 2 + 1, none⟩ = some (.slice x.a x.z.eras.length x.c) := hc 1 _ rfl
  have HL : Hid (xs.take (i + 1) = xs.take i ++ [x]) := Sx.dm hx
  have PX : Hid (xs.take i ++ [x] <+: xs) := by show _ <+: _; rw [← HL.out]; exact List.take_prefix _ _
  have J2 : Hid (J (xs.take i) (wr.alloc (.cells #[ag x.z.name, .slice x.a x.z.eras.length x.c] 44))) := lI HJ.out JS.out _
  have B2 : Hid (Kp W (wr.alloc (.cells #[ag x.z.name, .slice x.a x.z.eras.length x.c] 44))) := HT.out _ _ _ B0.out (HA.out _ _ B0.out)
  clear hc hx
  obtain ⟨fn, tmps, assign, body, hy, hR⟩ := HY.out _ x (wr.alloc (.cells #[ag x.z.name, .slice x.a x.z.eras.length x.c] 44)) J2.out PX.out
  try dsimp only at hy
  have HR := hid hR
  clear hR
  gi_wp2
  refine HR.out.mono ?_
  clear HR hy JS B0 J2 hrb
  rintro e W3 (⟨rfl, hJ3, hk3⟩ | ⟨rfl, hJx3⟩)
  ·have B3 : Hid (Kp W W3) := HT.out _ _ _ B2.out hk3
   have JN : Hid (J (xs.take (i + 1)) W3) := by show J _ _; rw [HL.out]; exact hJ3
   clear hJ3 hk3 B2
   gi_wp2
   go_roundw
   case rel => exact ⟨i + 1, by omega, by go_num, JN, B3⟩
   case measure => simp [intOf]; omega
  ·gi_wp2
   refine bodyPost_ret (results_none rfl _ _ _) rfl ?_
   exact ⟨⟨_, rfl⟩, .inr ⟨_, PX.out, hJx3⟩⟩
theorem Hl (Kp : World → World → Prop) (n Bo : Nat) (hn : 1 ≤ n) (xs : List ZV) (ra : Option Addr) (rcap : Nat) (w : World) (h : ∀ W A, Below w.heap.size w W → Kp W A → Rd 2 aJ A (.slice ra xs.length rcap) xs) (hxs : xs.length ≤ 10000)
  (cl : w.cell? ⟨Bo, 0, none⟩ = some (.slice ra xs.length rcap)) (hBo : Bo < w.heap.size) (hr : ∀ W, Below w.heap.size w W → Kp W W) (hKt : ∀ A B C, Kp A B → Kp B C → Kp A C) (hKa : ∀ W A o, Below w.heap.size w W → Kp W A → Kp A (A.alloc o)) :
  mM Fence.wide n Tryz.prog 161 #[.pointer (some ⟨Bo, 0, none⟩)] (fun x : ZV => #[zvV x]) Kp (fun ys => ys = xs) (fun pre => pre <+: xs) w :=
 fun l J Jx W hW1 hJ hJx hY h0 => JM Kp n l Bo hn xs ra rcap W (fun A => h W A hW1) hxs ((hW1.cell (p := ⟨Bo, 0, none⟩) hBo).trans cl) (q4N hBo hW1.size) (hr W hW1) hKt (fun A o => hKa W A o hW1) J Jx hJ hY h0
theorem yL (n Bo : Nat) (hn : 1 ≤ n) (xs : List ZV) (ra : Option Addr) (rcap : Nat) (W0 w : World) (h : Rd 2 aJ W0 (.slice ra xs.length rcap) xs) (hxs : xs.length ≤ 10000)
  (cl : w.cell? ⟨Bo, 0, none⟩ = some (.slice ra xs.length rcap)) (hBo : Bo < w.heap.size) (hW : Below W0.heap.size W0 w) :
  mM Fence.wide n Tryz.prog 161 #[.pointer (some ⟨Bo, 0, none⟩)] (fun x : ZV => #[zvV x]) (Below W0.heap.size) (fun ys => ys = xs) (fun pre => pre <+: xs) w :=
 Hl _ n Bo hn xs ra rcap w (fun W A h1 h2 => au h (hW.trans ((h1.mono hW.size).trans h2))) hxs cl hBo (fun W _ => q4B _ _) (fun _ _ _ a b => a.trans b) (fun W A o h1 h2 => (q4B _ _).alloc (Nat.le_trans hW.size (Nat.le_trans h1.size h2.size)) _)
theorem rT (ra : Option Addr) (n rcap : Nat) (w : World) :
  Calls Tryz.prog 107 #[.slice ra n rcap] w fun e w' => e = .returned (.func (.func 161) #[] #[.pointer (some ⟨w.heap.size, 0, none⟩)]) ∧ w' = w.alloc (.cells #[.slice ra n rcap] 23) := by
 go_enter Tryz.func107, Tryz.ntmps107
 go_wp2
 go_ret
 exact ⟨rfl, rfl⟩
theorem JL (Kp : World → World → Prop) (n l Bo : Nat) (hn : 1 ≤ n) (xs : List Sx.Tm) (ra : Option Addr) (rcap : Nat) (W : World) (h : ∀ A, Kp W A → pR A (.slice ra xs.length rcap) xs) (hxs : xs.length ≤ 10000)
  (cl : W.cell? ⟨Bo, 0, none⟩ = some (.slice ra xs.length rcap)) (hBo : Bo < W.heap.size) (hW : Kp W W) (hKt : ∀ A B C, Kp A B → Kp B C → Kp A C) (hKa : ∀ A o, Kp W A → Kp A (A.alloc o))
  (J Jx : List Sx.Tm → World → Prop) (hJ : lG J)
  (hY : ∀ pre x W1, J pre W1 → pre ++ [x] <+: xs → YieldAt Fence.wide (n - 1) Tryz.prog l #[iO x] W1 fun e W' => (e = .returned (.bool true) ∧ J (pre ++ [x]) W' ∧ Kp W1 W') ∨ (e = .returned (.bool false) ∧ Jx (pre ++ [x]) W'))
  (h0 : J [] W) :
  CallsIn Fence.wide n Tryz.prog 163 #[.func (.yield l) #[] #[], .pointer (some ⟨Bo, 0, none⟩)] W fun e W' => (∃ v, e = .returned v) ∧ ((∃ ys, ys = xs ∧ J ys W') ∨ (∃ pre, pre <+: xs ∧ Jx pre W')) := by
 have HY := hid hY
 have HJ := hid hJ
 have H := hid h
 have J0 : Hid (J (xs.take 0) W) := h0
 have B0 := hid hW
 have HT := hid hKt
 have HA := hid hKa
 clear hY hJ h h0 hW hKt hKa
 refine callsIn_of_wp Tryz.func163 rfl trivial ?_ rfl
 simp only [Tryz.ntmps163, List.size_toArray, List.length_cons, List.length_nil, Nat.reduceAdd, Nat.reduceSub, Array.replicate_succ, Array.replicate_zero, List.push_toArray, List.append_toArray, List.nil_append, List.cons_append]
 gi_wp2
 clear cl hBo
 gi_loopw [7] (fun a wr => ∃ i : Nat, i ≤ xs.length ∧ a = .int .i64 i ∧ Hid (J (xs.take i) wr) ∧ Hid (Kp W wr)) (fun a _ => xs.length - (intOf a).toNat)
 case atStart => exact ⟨0, Nat.zero_le _, rfl, J0, B0⟩
 case round =>
  clear J0 B0
  obtain ⟨i, hi, rfl, JS, B0⟩ := hrel
  by_cases hlt : i < xs.length
  case neg =>
   have e : xs.take i = xs := List.take_of_length_le (by omega)
   rw [e] at JS
   gi_wp2
   go_end0
   exact ⟨⟨_, rfl⟩, .inl ⟨_, rfl, JS.out⟩⟩
  obtain ⟨x, hx⟩ : ∃ x, xs[i]? = some x := ⟨_, q4G hlt⟩
  obtain ⟨rb, ro, rfl, hrb, hc⟩ := dx (H.out wr B0.out) hx
  have c0 : wr.cell? ⟨rb, ro + i * 3, none⟩ = some (.int .i64 x.at_) := hc 0 _ rfl
  have c1 : wr.cell? ⟨rb, ro + i * 3 + 1, none⟩ = some (.int .i64 x.save) := hc 1 _ rfl
  have c2 : wr.cell? ⟨rb, ro + i * 3 + 2, none⟩ = some (ag x.letter) := hc 2 _ rfl
  have HL : Hid (xs.take (i + 1) = xs.take i ++ [x]) := Sx.dm hx
  have PX : Hid (xs.take i ++ [x] <+: xs) := by show _ <+: _; rw [← HL.out]; exact List.take_prefix _ _
  have J2 : Hid (J (xs.take i) (wr.alloc (.cells #[.int .i64 x.at_, .int .i64 x.save, ag x.letter] 72))) := lI HJ.out JS.out _
  have B2 : Hid (Kp W (wr.alloc (.cells #[.int .i64 x.at_, .int .i64 x.save, ag x.letter] 72))) := HT.out _ _ _ B0.out (HA.out _ _ B0.out)
  clear hc hx
  obtain ⟨fn, tmps, assign, body, hy, hR⟩ := HY.out _ x (wr.alloc (.cells #[.int .i64 x.at_, .int .i64 x.save, ag x.letter] 72)) J2.out PX.out
  try dsimp only at hy
  have HR := hid hR
  clear hR
  gi_wp2
  refine HR.out.mono ?_
  clear HR hy JS B0 J2 hrb
  rintro e W3 (⟨rfl, hJ3, hk3⟩ | ⟨rfl, hJx3⟩)
  ·have B3 : Hid (Kp W W3) := HT.out _ _ _ B2.out hk3
   have JN : Hid (J (xs.take (i + 1)) W3) := by show J _ _; rw [HL.out]; exact hJ3
   clear hJ3 hk3 B2
   gi_wp2
   go_roundw
   case rel => exact ⟨i + 1, by omega, by go_num, JN, B3⟩
   case measure => simp [intOf]; omega
  ·gi_wp2
   refine bodyPost_ret (results_none rfl _ _ _) rfl ?_
   exact ⟨⟨_, rfl⟩, .inr ⟨_, PX.out, hJx3⟩⟩
theorem Hf (Kp : World → World → Prop) (n Bo : Nat) (hn : 1 ≤ n) (xs : List Sx.Tm) (ra : Option Addr) (rcap : Nat) (w : World) (h : ∀ W A, Below w.heap.size w W → Kp W A → pR A (.slice ra xs.length rcap) xs) (hxs : xs.length ≤ 10000)
  (cl : w.cell? ⟨Bo, 0, none⟩ = some (.slice ra xs.length rcap)) (hBo : Bo < w.heap.size) (hr : ∀ W, Below w.heap.size w W → Kp W W) (hKt : ∀ A B C, Kp A B → Kp B C → Kp A C) (hKa : ∀ W A o, Below w.heap.size w W → Kp W A → Kp A (A.alloc o)) :
  mM Fence.wide n Tryz.prog 163 #[.pointer (some ⟨Bo, 0, none⟩)] (fun x : Sx.Tm => #[iO x]) Kp (fun ys => ys = xs) (fun pre => pre <+: xs) w :=
 fun l J Jx W hW1 hJ hJx hY h0 => JL Kp n l Bo hn xs ra rcap W (fun A => h W A hW1) hxs ((hW1.cell (p := ⟨Bo, 0, none⟩) hBo).trans cl) (q4N hBo hW1.size) (hr W hW1) hKt (fun A o => hKa W A o hW1) J Jx hJ hY h0
theorem Hg (n Bo : Nat) (hn : 1 ≤ n) (xs : List Sx.Tm) (ra : Option Addr) (rcap : Nat) (W0 w : World) (h : pR W0 (.slice ra xs.length rcap) xs) (hxs : xs.length ≤ 10000)
  (cl : w.cell? ⟨Bo, 0, none⟩ = some (.slice ra xs.length rcap)) (hBo : Bo < w.heap.size) (hW : Below W0.heap.size W0 w) :
  mM Fence.wide n Tryz.prog 163 #[.pointer (some ⟨Bo, 0, none⟩)] (fun x : Sx.Tm => #[iO x]) (Below W0.heap.size) (fun ys => ys = xs) (fun pre => pre <+: xs) w :=
 Hf _ n Bo hn xs ra rcap w (fun W A h1 h2 => au h (hW.trans ((h1.mono hW.size).trans h2))) hxs cl hBo (fun W _ => q4B _ _) (fun _ _ _ a b => a.trans b) (fun W A o h1 h2 => (q4B _ _).alloc (Nat.le_trans hW.size (Nat.le_trans h1.size h2.size)) _)
theorem He (ra : Option Addr) (n rcap : Nat) (w : World) :
  Calls Tryz.prog 113 #[.slice ra n rcap] w fun e w' => e = .returned (.func (.func 163) #[] #[.pointer (some ⟨w.heap.size, 0, none⟩)]) ∧ w' = w.alloc (.cells #[.slice ra n rcap] 68) := by
 go_enter Tryz.func113, Tryz.ntmps113
 go_wp2
 go_ret
 exact ⟨rfl, rfl⟩

/- eras of zones, zone by zone -/
def aS (ps : List ZV) : List Sx.Er := ps.flatMap fun p => p.z.eras
theorem Az {ps : List ZV} {i : Nat} {p : ZV} (h : ps[i]? = some p) : aS (ps.take (i + 1)) = aS (ps.take i) ++ p.z.eras := by
 rw [Sx.dm h]; simp [aS]
theorem Ay {ps : List ZV} {i k : Nat} {p : ZV} (h : ps[i]? = some p) (hk : k ≤ p.z.eras.length) : aS (ps.take i) ++ p.z.eras.take k <+: aS ps := by
 have e : ps = ps.take i ++ p :: ps.drop (i + 1) := by
  have := List.take_append_drop (i + 1) ps
  rw [Sx.dm h] at this
  simpa using this.symm
 have e2 : aS ps = aS (ps.take i) ++ (p.z.eras ++ aS (ps.drop (i + 1))) := by
  conv => lhs; rw [e]
  simp [aS]
 rw [e2]
 refine (List.prefix_append_right_inj _).2 ?_
 exact (List.take_prefix _ _).trans (List.prefix_append _ _)
theorem Im (Kp : World → World → Prop) (n l Bo : Nat) (hn : 1 ≤ n) (xs : List ZV) (zs : List Sx.Zn) (ra : Option Addr) (rcap : Nat) (W : World) (h : ∀ A, Kp W A → jr A (.slice ra xs.length rcap) zs xs) (hxs : xs.length ≤ 10000) (hes : ∀ p ∈ xs, p.z.eras.length ≤ 10000)
  (cl : W.cell? ⟨Bo, 0, none⟩ = some (.slice ra xs.length rcap)) (hBo : Bo < W.heap.size) (hW : Kp W W) (hKt : ∀ A B C, Kp A B → Kp B C → Kp A C) (hKa : ∀ A o, Kp W A → Kp A (A.alloc o))
  (J Jx : List Sx.Er → World → Prop) (hJ : lG J)
  (hY : ∀ pre x W1, J pre W1 → pre ++ [x] <+: aS xs → YieldAt Fence.wide (n - 1) Tryz.prog l #[gZ x] W1 fun e W' => (e = .returned (.bool true) ∧ J (pre ++ [x]) W' ∧ Kp W1 W') ∨ (e = .returned (.bool false) ∧ Jx (pre ++ [x]) W'))
  (h0 : J [] W) :
  CallsIn Fence.wide n Tryz.prog 110 #[.func (.yield l) #[] #[], .pointer (some ⟨Bo, 0, none⟩)] W fun e W' => (∃ v, e = .returned v) ∧ ((∃ ys, ys = aS xs ∧ J ys W') ∨ (∃ pre, pre <+: aS xs ∧ Jx pre W')) := by
 have HY := hid hY
 have HJ := hid hJ
 have H := hid h
 have HES := hid hes
 have J0 : Hid (J (aS (xs.take 0)) W) := h0
 have B0 := hid hW
 have HTT := hid hKt
 have HAA := hid hKa
 clear hY hJ h h0 hW hes hKt hKa
 refine callsIn_of_wp Tryz.func110 rfl trivial ?_ rfl
 simp only [Tryz.ntmps110, List.size_toArray, List.length_cons, List.length_nil, Nat.reduceAdd, Nat.reduceSub, Array.replicate_succ, Array.replicate_zero, List.push_toArray, List.append_toArray, List.nil_append, List.cons_append]
 gi_wp2
 clear cl hBo
 gi_loopw [9] (fun a wr => ∃ i : Nat, i ≤ xs.length ∧ a = .int .i64 i ∧ Hid (J (aS (xs.take i)) wr) ∧ Hid (Kp W wr)) (fun a _ => xs.length - (intOf a).toNat)
 case atStart => exact ⟨0, Nat.zero_le _, rfl, J0, B0⟩
 case round =>
  clear J0 B0
  obtain ⟨i, hi, rfl, JS, B0⟩ := hrel
  by_cases hlt : i < xs.length
  case neg =>
   have e : xs.take i = xs := List.take_of_length_le (by omega)
   rw [e] at JS
   gi_wp2
   go_end0
   exact ⟨⟨_, rfl⟩, .inl ⟨_, rfl, JS.out⟩⟩
  obtain ⟨x, hx⟩ : ∃ x, xs[i]? = some x := ⟨_, q4G hlt⟩
  obtain ⟨rb, ro, rfl, hrb, hc⟩ := dx (H.out wr B0.out).rd hx
  have c0 : wr.cell? ⟨rb, ro + i * 2, none⟩ = some (ag x.z.name) := hc 0 _ rfl
  have c1 : wr.cell? ⟨rb, ro + i * 2 + 1, none⟩ = some (.slice x.a x.z.eras.length x.c) := hc 1 _ rfl
  have HR0 : Hid (∀ A, Kp W A → gQ A (.slice x.a x.z.eras.length x.c) x.z.eras) := fun A hA => (H.out A hA).eras x (List.mem_of_getElem? hx)
  have HX := hid hx
  have hel := HES.out x (List.mem_of_getElem? hx)
  have J2 : Hid (J (aS (xs.take i) ++ x.z.eras.take 0) (wr.alloc (.cells #[ag x.z.name, .slice x.a x.z.eras.length x.c] 44))) := by
   show J _ _; rw [List.take_zero, List.append_nil]; exact lI HJ.out JS.out _
  have B2 : Hid (Kp W (wr.alloc (.cells #[ag x.z.name, .slice x.a x.z.eras.length x.c] 44))) := HTT.out _ _ _ B0.out (HAA.out _ _ B0.out)
  have Z0 := aD wr [ag x.z.name, .slice x.a x.z.eras.length x.c] 44
  obtain ⟨z1, _⟩ := aa Z0 1 rfl
  have zs0 := Z0.1
  clear hc hx JS B0 Z0
  obtain ⟨L, hL⟩ : ∃ L, x.z.eras.length = L := ⟨_, rfl⟩
  obtain ⟨ea, hEA⟩ : ∃ ea, x.a = ea := ⟨_, rfl⟩
  have HL := hid hL
  rw [hL, hEA] at c1 HR0 J2 B2 z1 zs0
  rw [hL] at hel
  clear hL hEA
  gi_wp2
  obtain ⟨V, hV⟩ : ∃ V, wr.alloc (.cells #[ag x.z.name, .slice ea L x.c] 44) = V := ⟨_, rfl⟩
  rw [hV] at J2 B2 ⊢
  clear hV c0 c1 z1 zs0 hrb
  gi_loopw [16] (fun a wr => ∃ k : Nat, k ≤ L ∧ a = .int .i64 k ∧ Hid (J (aS (xs.take i) ++ x.z.eras.take k) wr) ∧ Hid (Kp W wr)) (fun a _ => L - (intOf a).toNat)
  case atStart => exact ⟨0, Nat.zero_le _, rfl, J2, B2⟩
  case round =>
   clear J2 B2
   obtain ⟨k, hk, rfl, JS, B0⟩ := hrel
   by_cases hlk : k < L
   case neg =>
    have JN : Hid (J (aS (xs.take (i + 1))) wr) := by
     show J _ _
     rw [Az HX.out]
     have e : x.z.eras.take k = x.z.eras := List.take_of_length_le (by have := HL.out; omega)
     have := JS.out
     rwa [e] at this
    clear JS
    gi_wp2
    go_roundw
    case rel => exact ⟨i + 1, by omega, by go_num, JN, B0⟩
    case measure => simp [intOf]; omega
   obtain ⟨y, hy⟩ : ∃ y, x.z.eras[k]? = some y := ⟨_, q4G (by have := HL.out; omega)⟩
   obtain ⟨eb, eo, rfl, heb, hc⟩ := dx (HR0.out wr B0.out) hy
   obtain ⟨c0, c1, c2, c3, c4, c5, c6, c7, c8, c9⟩ := zJ hc
   have HT : Hid (x.z.eras.take (k + 1) = x.z.eras.take k ++ [y]) := Sx.dm hy
   have PX : Hid ((aS (xs.take i) ++ x.z.eras.take k) ++ [y] <+: aS xs) := by
    show _ <+: _
    rw [List.append_assoc, ← HT.out]
    exact Ay HX.out (by have := HL.out; omega)
   have J3 : Hid (J (aS (xs.take i) ++ x.z.eras.take k) (wr.alloc (.cells #[.int .i64 y.shift, ag y.rules, .int .i64 y.save, ag y.format, .bool y.opn, .int .i64 y.uy, .int .i64 y.um, .int .i64 y.ud, .int .i64 y.uat, .int .i64 y.uclock] 67))) := lI HJ.out JS.out _
   have B3 : Hid (Kp W (wr.alloc (.cells #[.int .i64 y.shift, ag y.rules, .int .i64 y.save, ag y.format, .bool y.opn, .int .i64 y.uy, .int .i64 y.um, .int .i64 y.ud, .int .i64 y.uat, .int .i64 y.uclock] 67))) := HTT.out _ _ _ B0.out (HAA.out _ _ B0.out)
   clear hc hy
   obtain ⟨fn, tmps, assign, body, hy, hR⟩ := HY.out _ y (wr.alloc (.cells #[.int .i64 y.shift, ag y.rules, .int .i64 y.save, ag y.format, .bool y.opn, .int .i64 y.uy, .int .i64 y.um, .int .i64 y.ud, .int .i64 y.uat, .int .i64 y.uclock] 67)) J3.out PX.out
   try dsimp only at hy
   have HR := hid hR
   clear hR
   gi_wp2
   refine HR.out.mono ?_
   clear HR hy JS B0 J3 heb c0 c1 c2 c3 c4 c5 c6 c7 c8 c9
   rintro e W3 (⟨rfl, hJ3, hk3⟩ | ⟨rfl, hJx3⟩)
   ·have B4 : Hid (Kp W W3) := HTT.out _ _ _ B3.out hk3
    have JN : Hid (J (aS (xs.take i) ++ x.z.eras.take (k + 1)) W3) := by show J _ _; rw [HT.out, ← List.append_assoc]; exact hJ3
    clear hJ3 hk3 B3
    gi_wp2
    go_roundw
    case rel => exact ⟨k + 1, by omega, by go_num, JN, B4⟩
    case measure => simp [intOf]; omega
   ·gi_wp2
    refine bodyPost_ret (results_none rfl _ _ _) rfl ?_
    exact ⟨⟨_, rfl⟩, .inr ⟨_, PX.out, hJx3⟩⟩
theorem uQ (Kp : World → World → Prop) (n Bo : Nat) (hn : 1 ≤ n) (xs : List ZV) (zs : List Sx.Zn) (ra : Option Addr) (rcap : Nat) (w : World) (h : ∀ W A, Below w.heap.size w W → Kp W A → jr A (.slice ra xs.length rcap) zs xs) (hxs : xs.length ≤ 10000) (hes : ∀ p ∈ xs, p.z.eras.length ≤ 10000)
  (cl : w.cell? ⟨Bo, 0, none⟩ = some (.slice ra xs.length rcap)) (hBo : Bo < w.heap.size) (hr : ∀ W, Below w.heap.size w W → Kp W W) (hKt : ∀ A B C, Kp A B → Kp B C → Kp A C) (hKa : ∀ W A o, Below w.heap.size w W → Kp W A → Kp A (A.alloc o)) :
  mM Fence.wide n Tryz.prog 110 #[.pointer (some ⟨Bo, 0, none⟩)] (fun x : Sx.Er => #[gZ x]) Kp (fun ys => ys = aS xs) (fun pre => pre <+: aS xs) w :=
 fun l J Jx W hW1 hJ hJx hY h0 => Im Kp n l Bo hn xs zs ra rcap W (fun A => h W A hW1) hxs hes ((hW1.cell (p := ⟨Bo, 0, none⟩) hBo).trans cl) (q4N hBo hW1.size) (hr W hW1) hKt (fun A o => hKa W A o hW1) J Jx hJ hY h0
theorem AC (n Bo : Nat) (hn : 1 ≤ n) (xs : List ZV) (zs : List Sx.Zn) (ra : Option Addr) (rcap : Nat) (W0 w : World) (h : jr W0 (.slice ra xs.length rcap) zs xs) (hxs : xs.length ≤ 10000) (hes : ∀ p ∈ xs, p.z.eras.length ≤ 10000)
  (cl : w.cell? ⟨Bo, 0, none⟩ = some (.slice ra xs.length rcap)) (hBo : Bo < w.heap.size) (hW : Below W0.heap.size W0 w) :
  mM Fence.wide n Tryz.prog 110 #[.pointer (some ⟨Bo, 0, none⟩)] (fun x : Sx.Er => #[gZ x]) (Below W0.heap.size) (fun ys => ys = aS xs) (fun pre => pre <+: aS xs) w :=
 uQ _ n Bo hn xs zs ra rcap w (fun W A h1 h2 => fK h (hW.trans ((h1.mono hW.size).trans h2))) hxs hes cl hBo (fun W _ => q4B _ _) (fun _ _ _ a b => a.trans b) (fun W A o h1 h2 => (q4B _ _).alloc (Nat.le_trans hW.size (Nat.le_trans h1.size h2.size)) _)
theorem qd (ra : Option Addr) (n rcap : Nat) (w : World) :
  Calls Tryz.prog 49 #[.slice ra n rcap] w fun e w' => e = .returned (.func (.func 110) #[] #[.pointer (some ⟨w.heap.size, 0, none⟩)]) ∧ w' = w.alloc (.cells #[.slice ra n rcap] 23) := by
 go_enter Tryz.func49, Tryz.ntmps49
 go_wp2
 go_ret
 exact ⟨rfl, rfl⟩

/- names by which zones are found -/
def dF (zs : List Sx.Zn) (ls : List Sx.Lk) : List Tx.Bs := zs.map Sx.Zn.name ++ ls.map Sx.Lk.name
theorem Kh {zs : List Sx.Zn} {ls : List Sx.Lk} {i : Nat} : (zs.take i).map Sx.Zn.name <+: dF zs ls := by
 unfold dF
 rw [List.map_take]
 exact (List.take_prefix _ _).trans (List.prefix_append _ _)
theorem Kg {zs : List Sx.Zn} {ls : List Sx.Lk} {i : Nat} : zs.map Sx.Zn.name ++ (ls.take i).map Sx.Lk.name <+: dF zs ls := by
 unfold dF
 rw [List.map_take]
 exact (List.prefix_append_right_inj _).2 (List.take_prefix _ _)
def KpB (n₀ Bo : Nat) (A B : World) : Prop := Below n₀ A B ∧ (Bo < A.heap.size → B.heap[Bo]? = A.heap[Bo]?)
theorem kpb_t {n₀ Bo : Nat} {A B C : World} (h : KpB n₀ Bo A B) (k : KpB n₀ Bo B C) : KpB n₀ Bo A C :=
 ⟨h.1.trans k.1, fun q => (k.2 (q4N q h.1.size)).trans (h.2 q)⟩
theorem I7 {n₀ Bo : Nat} {w : World} (hn : n₀ ≤ w.heap.size) (hB : Bo < w.heap.size) (W : World) (l : Nat) (o o' : Obj) (a : w.heap.size ≤ l) (b : W.heap[l]? = some o) (c : o.isCells = false) (d : o.isWalk = false) : KpB n₀ Bo W (W.putObj l o') :=
 ⟨belowK_b hn W l o o' a b c d, fun _ => World.putObj_heap_other (by omega)⟩
theorem xZ {n₀ Bo : Nat} {W wr W3 : World} {o : Obj} (h : KpB n₀ Bo (wr.alloc o) W3) (hB : Bo < W.heap.size) (k : wr.heap[Bo]? = W.heap[Bo]? ∧ W.heap.size ≤ wr.heap.size) : W3.heap[Bo]? = W.heap[Bo]? ∧ W.heap.size ≤ W3.heap.size := by
 have l : Bo < wr.heap.size := q4N hB k.2
 have s := h.1.size
 simp at s
 exact ⟨(h.2 (by simp; omega)).trans ((Below.heap_alloc _ _ _ l).trans k.1), by omega⟩
theorem Gi (n l Bo : Nat) (hn : 1 ≤ n) (xs : List ZV) (zs : List Sx.Zn) (ls : List Sx.Lk) (za la : Option Addr) (zcap lcap : Nat) (W0 W : World) (h : jr W0 (.slice za xs.length zcap) zs xs) (hl : fe W0 (.slice la ls.length lcap) ls) (hxs : xs.length ≤ 10000) (hls : ls.length ≤ 10000)
  (c1 : W.cell? ⟨Bo, 1, none⟩ = some (.slice za xs.length zcap)) (c2 : W.cell? ⟨Bo, 2, none⟩ = some (.slice la ls.length lcap)) (hBo : Bo < W.heap.size) (hW : Below W0.heap.size W0 W)
  (J Jx : List Tx.Bs → World → Prop) (hJ : lG J)
  (hY : ∀ pre x W1, J pre W1 → pre ++ [x] <+: dF zs ls → YieldAt Fence.wide (n - 1) Tryz.prog l #[ag x] W1 fun e W' => (e = .returned (.bool true) ∧ J (pre ++ [x]) W' ∧ KpB W0.heap.size Bo W1 W') ∨ (e = .returned (.bool false) ∧ Jx (pre ++ [x]) W'))
  (h0 : J [] W) :
  CallsIn Fence.wide n Tryz.prog 157 #[.func (.yield l) #[] #[], .pointer (some ⟨Bo, 0, none⟩)] W fun e W' => (∃ v, e = .returned v) ∧ ((∃ ys, ys = dF zs ls ∧ J ys W') ∨ (∃ pre, pre <+: dF zs ls ∧ Jx pre W')) := by
 have HY := hid hY
 have HJ := hid hJ
 have H := hid h
 have HLK := hid hl
 have C2 := hid c2
 have HB := hid hBo
 have HZL := hid (lh h)
 have HF := hid h.fst
 have J0 : Hid (J ((zs.take 0).map Sx.Zn.name) W) := h0
 have B0 := hid hW
 have hBW : Bo < W.heap.size := hBo
 clear hY hJ h h0 hW hl c2 hBo
 refine callsIn_of_wp Tryz.func157 rfl trivial ?_ rfl
 simp only [Tryz.ntmps157, List.size_toArray, List.length_cons, List.length_nil, Nat.reduceAdd, Nat.reduceSub, Array.replicate_succ, Array.replicate_zero, List.push_toArray, List.append_toArray, List.nil_append, List.cons_append]
 gi_wp2
 clear c1 hBW
 gi_loopw [10] (fun a wr => ∃ i : Nat, i ≤ xs.length ∧ a = .int .i64 i ∧ Hid (J ((zs.take i).map Sx.Zn.name) wr) ∧ Hid (Below W0.heap.size W0 wr) ∧ Hid (wr.heap[Bo]? = W.heap[Bo]? ∧ W.heap.size ≤ wr.heap.size)) (fun a _ => xs.length - (intOf a).toNat)
 case atStart => exact ⟨0, Nat.zero_le _, rfl, J0, B0, ⟨rfl, Nat.le_refl _⟩⟩
 case round =>
  clear J0 B0
  obtain ⟨i, hi, rfl, JS, B0, K0⟩ := hrel
  by_cases hlt : i < xs.length
  case pos =>
   obtain ⟨x, hx⟩ : ∃ x, xs[i]? = some x := ⟨_, q4G hlt⟩
   have hzx : zs[i]? = some x.z := by rw [← HF.out, List.getElem?_map, hx]; rfl
   obtain ⟨rb, ro, rfl, hrb, hc⟩ := dx (au H.out.rd B0.out) hx
   obtain ⟨zn, ea, ec⟩ := x
   dsimp only at hzx
   have c0 : wr.cell? ⟨rb, ro + i * 2, none⟩ = some (ag zn.name) := hc 0 _ rfl
   have c1 : wr.cell? ⟨rb, ro + i * 2 + 1, none⟩ = some (.slice ea zn.eras.length ec) := hc 1 _ rfl
   have HT : Hid ((zs.take (i + 1)).map Sx.Zn.name = (zs.take i).map Sx.Zn.name ++ [zn.name]) := by show _ = _; rw [Sx.dm hzx]; simp
   have PX : Hid ((zs.take i).map Sx.Zn.name ++ [zn.name] <+: dF zs ls) := by show _ <+: _; rw [← HT.out]; exact Kh
   have J2 : Hid (J ((zs.take i).map Sx.Zn.name) (wr.alloc (.cells #[ag zn.name, .slice ea zn.eras.length ec] 44))) := lI HJ.out JS.out _
   have B2 := hid (B0.out.alloc B0.out.size (.cells #[ag zn.name, .slice ea zn.eras.length ec] 44))
   clear hc hx hzx
   obtain ⟨fn, tmps, assign, body, hy, hR⟩ := HY.out _ zn.name (wr.alloc (.cells #[ag zn.name, .slice ea zn.eras.length ec] 44)) J2.out PX.out
   try dsimp only at hy
   have HR := hid hR
   clear hR
   gi_wp2
   refine HR.out.mono ?_
   clear HR hy JS B0 J2 hrb
   rintro e W3 (⟨rfl, hJ3, hk3⟩ | ⟨rfl, hJx3⟩)
   ·have B3 := hid (B2.out.trans hk3.1)
    have K3 : Hid (W3.heap[Bo]? = W.heap[Bo]? ∧ W.heap.size ≤ W3.heap.size) := xZ hk3 HB.out K0.out
    have JN : Hid (J ((zs.take (i + 1)).map Sx.Zn.name) W3) := by show J _ _; rw [HT.out]; exact hJ3
    clear hJ3 hk3 B2
    gi_wp2
    go_roundw
    case rel => exact ⟨i + 1, by omega, by go_num, JN, B3, K3⟩
    case measure => simp [intOf]; omega
   ·gi_wp2
    refine bodyPost_ret (results_none rfl _ _ _) rfl ?_
    exact ⟨⟨_, rfl⟩, .inr ⟨_, PX.out, hJx3⟩⟩
  case neg =>
   have e : zs.take i = zs := List.take_of_length_le (by have := HZL.out; omega)
   rw [e] at JS
   have J5 : Hid (J (zs.map Sx.Zn.name ++ (ls.take 0).map Sx.Lk.name) wr) := by show J _ _; rw [List.take_zero, List.map_nil, List.append_nil]; exact JS.out
   have c2 := (World.cell?_of_block (w := W) (a := ⟨Bo, 2, none⟩) K0.out.1).trans C2.out
   have hBr : Bo < wr.heap.size := q4N HB.out K0.out.2
   clear JS e
   gi_wp2
   clear c2 hBr
   gi_loopw [23] (fun a wr => ∃ i : Nat, i ≤ ls.length ∧ a = .int .i64 i ∧ Hid (J (zs.map Sx.Zn.name ++ (ls.take i).map Sx.Lk.name) wr) ∧ Hid (Below W0.heap.size W0 wr) ∧ Hid (wr.heap[Bo]? = W.heap[Bo]? ∧ W.heap.size ≤ wr.heap.size)) (fun a _ => ls.length - (intOf a).toNat)
   case atStart => exact ⟨0, Nat.zero_le _, rfl, J5, B0, K0⟩
   case round =>
    clear J5 B0 K0
    obtain ⟨j, hj, rfl, JS, B0, K0⟩ := hrel
    by_cases hlj : j < ls.length
    case neg =>
     have e : ls.take j = ls := List.take_of_length_le (by omega)
     rw [e] at JS
     gi_wp2
     go_end0
     exact ⟨⟨_, rfl⟩, .inl ⟨_, rfl, JS.out⟩⟩
    obtain ⟨x, hx⟩ : ∃ x, ls[j]? = some x := ⟨_, q4G hlj⟩
    obtain ⟨rb, ro, rfl, hrb, hc⟩ := dx (au HLK.out B0.out) hx
    obtain ⟨c0, c1⟩ := ui hc
    have HT : Hid ((ls.take (j + 1)).map Sx.Lk.name = (ls.take j).map Sx.Lk.name ++ [x.name]) := by show _ = _; rw [Sx.dm hx]; simp
    have PX : Hid ((zs.map Sx.Zn.name ++ (ls.take j).map Sx.Lk.name) ++ [x.name] <+: dF zs ls) := by show _ <+: _; rw [List.append_assoc, ← HT.out]; exact Kg
    have J2 : Hid (J (zs.map Sx.Zn.name ++ (ls.take j).map Sx.Lk.name) (wr.alloc (.cells #[ag x.to, ag x.name] 35))) := lI HJ.out JS.out _
    have B2 := hid (B0.out.alloc B0.out.size (.cells #[ag x.to, ag x.name] 35))
    clear hc hx
    obtain ⟨fn, tmps, assign, body, hy, hR⟩ := HY.out _ x.name (wr.alloc (.cells #[ag x.to, ag x.name] 35)) J2.out PX.out
    try dsimp only at hy
    have HR := hid hR
    clear hR
    gi_wp2
    refine HR.out.mono ?_
    clear HR hy JS B0 J2 hrb
    rintro e W3 (⟨rfl, hJ3, hk3⟩ | ⟨rfl, hJx3⟩)
    ·have B3 := hid (B2.out.trans hk3.1)
     have K3 : Hid (W3.heap[Bo]? = W.heap[Bo]? ∧ W.heap.size ≤ W3.heap.size) := xZ hk3 HB.out K0.out
     have JN : Hid (J (zs.map Sx.Zn.name ++ (ls.take (j + 1)).map Sx.Lk.name) W3) := by show J _ _; rw [HT.out, ← List.append_assoc]; exact hJ3
     clear hJ3 hk3 B2
     gi_wp2
     go_roundw
     case rel => exact ⟨j + 1, by omega, by go_num, JN, B3, K3⟩
     case measure => simp [intOf]; omega
    ·gi_wp2
     refine bodyPost_ret (results_none rfl _ _ _) rfl ?_
     exact ⟨⟨_, rfl⟩, .inr ⟨_, PX.out, hJx3⟩⟩
theorem Gl (n Bo : Nat) (hn : 1 ≤ n) (xs : List ZV) (zs : List Sx.Zn) (ls : List Sx.Lk) (za la : Option Addr) (zcap lcap : Nat) (W0 w : World) (h : jr W0 (.slice za xs.length zcap) zs xs) (hl : fe W0 (.slice la ls.length lcap) ls) (hxs : xs.length ≤ 10000) (hls : ls.length ≤ 10000)
  (c1 : w.cell? ⟨Bo, 1, none⟩ = some (.slice za xs.length zcap)) (c2 : w.cell? ⟨Bo, 2, none⟩ = some (.slice la ls.length lcap)) (hBo : Bo < w.heap.size) (hW : Below W0.heap.size W0 w) :
  mM Fence.wide n Tryz.prog 157 #[.pointer (some ⟨Bo, 0, none⟩)] (fun x : Tx.Bs => #[ag x]) (KpB W0.heap.size Bo) (fun ys => ys = dF zs ls) (fun pre => pre <+: dF zs ls) w :=
 fun l J Jx W hW1 hJ hJx hY h0 => Gi n l Bo hn xs zs ls za la zcap lcap W0 W h hl hxs hls ((hW1.cell (p := ⟨Bo, 1, none⟩) hBo).trans c1) ((hW1.cell (p := ⟨Bo, 2, none⟩) hBo).trans c2) (q4N hBo hW1.size) (hW.trans (hW1.mono hW.size)) J Jx hJ hY h0
theorem Gj (ra za la : Option Addr) (n1 n2 n3 c1 c2 c3 : Nat) (w : World) :
  Calls Tryz.prog 96 #[.agg #[.slice ra n1 c1, .slice za n2 c2, .slice la n3 c3]] w fun e w' => e = .returned (.func (.func 157) #[] #[.pointer (some ⟨w.heap.size, 0, none⟩)]) ∧ w' = w.alloc (.cells #[.slice ra n1 c1, .slice za n2 c2, .slice la n3 c3] 26) := by
 go_enter Tryz.func96, Tryz.ntmps96
 go_wp2
 go_ret
 exact ⟨rfl, rfl⟩
end
section
open Go.RowKit

theorem Gq {l n : Nat} {P : Program} {o : Oper} {a : Act} {w : World} {K : Act → World → Prop} {Q : Exit → Act → World → Prop} (hd : ∀ c, o.op ≠ .defer c) (h : o.wp P a w K Q) : o.wpIn (Fence.wide.inRound l) n P a w K Q := by
 unfold Oper.wp at h
 unfold Oper.wpIn
 refine ⟨fun _ _ => trivial, ?_⟩
 rw [Oper.semAt_plain _ _ _ hd]
 generalize (execOp a.eval o).run P w = r at h ⊢
 cases r with
 | ok n' w' =>
   cases n' with
   | value v => exact h
   | skip => exact h
   | defer d => exact h
   | enter f args => exact ⟨fun q => (by cases q), CallsIn.inRound l (callsIn_wide.2 h)⟩
   | row row args =>
     refine ⟨fun q => (by cases q), fun c cs _ => ?_⟩
     obtain ⟨v, w2, r, s⟩ := h c cs
     exact ⟨v, w2, r, stepsIn_wide.2 s⟩
   | _ => exact h.elim
 | halt x w' => cases x <;> first | exact h | exact h.elim
theorem pV {l n : Nat} {P : Program} {md : Region.Mode} {ops : Array Oper} {Q : Exit → Act → World → Prop} (hd : ∀ (i : Nat) (o : Oper), ops[i]? = some o → ∀ c, o.op ≠ Op.defer c) (hQ : ¬ LetsOut Q) :
  ∀ (fuel : Nat) (listed : Array Bool) (a : Act) (w : World), wpAny P md ops Q fuel listed a w → wpAnyIn (Fence.wide.inRound l) n P md ops Q fuel listed a w
 | 0, _, _, _, h => h
 | fuel + 1, listed, a, w, h => by
   refine ⟨h.1, fun i hi => ?_⟩
   have h2 := h.2 i hi
   unfold wpOp at h2
   unfold wpOpIn
   cases ho : ops[i]? with
   | none =>
     simp only [ho] at h2 ⊢
     exact pV hd hQ fuel _ _ _ h2
   | some o =>
     simp only [ho] at h2 ⊢
     cases q : Region.wanted o (yielded ops a.tmps) with
     | true =>
       rw [q, if_pos rfl] at h2
       rw [if_pos rfl]
       rcases h2 with h3 | h3
       ·exact Oper.wpIn_mono (fun a' w' h' => pV hd hQ fuel _ a' w' h') (Gq (hd i o ho) h3)
       ·exact absurd h3.2 hQ
     | false =>
       rw [q, if_neg (by decide)] at h2
       rw [if_neg (by decide)]
       exact ⟨fun _ _ => trivial, pV hd hQ fuel _ _ _ h2⟩
/- the door: a drawing region in a round, by the held walk -/
theorem oU {l n : Nat} {P : Program} {id : Nat} {ops : Array Oper} {Q : Exit → Act → World → Prop} {a : Act} {w : World} {S : World → Prop} (hm : P.follows .mixedOrders = true)
  (hd : ops.all (fun (o : Oper) => match o.op with | Op.defer _ => false | _ => true) = true) (hQ : ¬ LetsOut Q) (hS : S w.drew)
  (h : S w.drew → wpAnyH P .any ops Q S ops.size (Array.replicate ops.size false) a w.drew) : (Code.region id ops true).wpIn (Fence.wide.inRound l) n P Q a w := by
 refine wpIn_region_any hm (pV ?_ hQ _ _ _ _ (wpAny_of_held _ _ _ _ (h hS)))
 intro i o ho c hc
 obtain ⟨hi, rfl⟩ := q4A.1 ho
 have := (Array.all_eq_true.1 hd) i hi
 rw [hc] at this
 cases this
/- append where there is room: the slice keeps its block -/
theorem jc {P : Program} {ops : Array Oper} {o : Oper} {a : Act} {w : World} {K : Act → World → Prop} {Q : Exit → Act → World → Prop} {E : Prop}
  (hg : o.guard = none) (s x : Operand) (t : TypeId) (hop : o.op = Op.call { callee := Callee.builtin Builtin.append, args := #[s, x], argTypes := #[t, t] })
  (base : Nat) (e : TypeId) (i : TypeInfo) (size : Nat) (h1 : P.underlying t = some (.slice e)) (h2 : P.info? e = some i) (h4 : i.size = size)
  (g k cap : Nat) (xs : List Value) (hs : a.eval s = .slice (some ⟨g, 0, none⟩) k cap) (hown : w.ownsRow base e size (.slice (some ⟨g, 0, none⟩) k cap) k xs)
  (ad : Addr) (m c : Nat) (news : List Value) (hx : a.eval x = .slice (some ad) m c) (hn : news.length = m * size) (hc : ∀ j u, news[j]? = some u → w.cell? (ad.add j) = some u) (h1c : ∀ u ∈ news, u.oneCell' = true) (b1 : k + m ≤ cap)
  (hK : ∀ w', w'.ownsRow base e size (.slice (some ⟨g, 0, none⟩) (k + m) cap) (k + m) (xs ++ news) → w.grownBy w' (some g) → K (a.put o.dst (.slice (some ⟨g, 0, none⟩) (k + m) cap)) w') :
  if Region.wanted o (yielded ops a.tmps) = true then Oper.wp P o a w K Q else E := by
 have hw : Region.wanted o (yielded ops a.tmps) = true := by simp [Region.wanted, hg]
 rw [if_pos hw]
 obtain ⟨w', hrun, r1, r2⟩ := run_append_fits (P := P) w base t o.type e i size h1 h2 h4 g k cap xs hown ad m c news hn hc h1c b1
 unfold Oper.wp
 simp [execOp, hop, resolve, invoke, builtin, hs, hx, hrun, Result.andThen]
 exact hK w' r1 r2
end
section
open Go.RowKit Go.Shelf
attribute [local go_sem] Oper.semAt_some

namespace Sx
def close (x : Tn × Tn) : Bool := decide (x.2.stands - x.1.stands < 172800)
theorem mG : ∀ (l : List Tn) (p : Tn), (cu p l).any close = !dO p.stands l
 | [], p => rfl
 | t :: r, p => by
   simp only [cu, List.any_cons, mG r t, dO, close]
   cases dO t.stands r <;> by_cases h : 172800 ≤ t.stands - p.stands <;> simp [h] <;> omega
theorem Ak {l : List Tn} (h : ∀ t ∈ l, -1000000000000 ≤ t.stands) : (bQ l).any close = !apart l := by
 match l, h with
 | [], _ => rfl
 | t :: r, h =>
   have h1 := h t (by simp)
   simp only [bQ, cu, List.any_cons, mG, apart, close, ago]
   rw [decide_eq_false (by omega)]
   rfl
end Sx
def jE (x : Sx.Tn × Sx.Tn) : List Value := [.int .i64 x.1.stands, .int .i64 x.1.clock, .int .i64 x.1.save, ag x.1.letter, .int .i64 x.2.stands, .int .i64 x.2.clock, .int .i64 x.2.save, ag x.2.letter]
def noT : Sx.Tn := ⟨0, 0, 0, []⟩
def noS : Sx.Tn × Sx.Tn := (noT, noT)
theorem ow (ra : Option Addr) (n rcap : Nat) (w : World) :
  Calls Tryz.prog 68 #[.slice ra n rcap] w fun e w' => e = .returned (.func (.func 131) #[] #[.pointer (some ⟨w.heap.size, 0, none⟩)]) ∧ w' = w.alloc (.cells #[.slice ra n rcap] 110) := by
 go_enter Tryz.func68, Tryz.ntmps68
 go_wp2
 go_ret
 exact ⟨rfl, rfl⟩
theorem Cz (x : Sx.Tn × Sx.Tn) (w : World) (h1 : -2000000000000 ≤ x.1.stands) (h2 : x.1.stands ≤ 2000000000000) (h3 : -2000000000000 ≤ x.2.stands) (h4 : x.2.stands ≤ 2000000000000) :
  Calls Tryz.prog 130 #[nJ x.1 x.2] w fun e w' => e = .returned (.bool (Sx.close x)) ∧ Below w.heap.size w w' := by
 obtain ⟨p, t⟩ := x
 dsimp only at h1 h2 h3 h4 ⊢
 have EC : Hid (Sx.close (p, t) = decide (t.stands - p.stands < 172800)) := rfl
 go_enter Tryz.func130, Tryz.ntmps130
 go_wp2
 go_ret
 exact ⟨by rw [EC.out]; rfl, (q4B _ _).alloc (Nat.le_refl _) _⟩
theorem aV {β : Type} {B k : Nat} {o : Obj} (h : k < B) : bX B (fun (_ : β) W => W.heap[k]? = some o) :=
 fun _ W W' row hs hg hr => (hg.block k (q4A.1 hs).1 (fun e => by have := (hr k e.symm).1; omega)).trans hs
theorem bN {β : Type} {B : Nat} (p : β → Prop) : bX B (fun s (_ : World) => p s) := fun _ _ _ _ hs _ _ => hs
theorem KH {n₀ Bs : Nat} {T : TypeId} {A B C : World} (h : Kp n₀ T Bs A B) (k : Kp n₀ T Bs B C) : Kp n₀ T Bs A C := ⟨h.1.trans k.1, zm h.2 k.2⟩
theorem KG {n₀ Bs : Nat} {T : TypeId} {w : World} (hn : n₀ ≤ w.heap.size) (W : World) (l : Nat) (o o' : Obj) (a : w.heap.size ≤ l) (b : W.heap[l]? = some o) (c : o.isCells = false) (d : o.isWalk = false) : Kp n₀ T Bs W (W.putObj l o') :=
 ⟨belowK_b hn W l o o' a b c d, EJ (w := w) W l o o' a b c d⟩
theorem ug {n₀ Bs : Nat} {T : TypeId} {W W' : World} (hb : Below W.heap.size W W') (hn : n₀ ≤ W.heap.size) : Kp n₀ T Bs W W' :=
 ⟨hb.mono hn, hb.size, fun k cs t a _ _ => by rw [hb.block k (q4A.1 a).1]; exact a⟩
theorem cO {W W' : World} (hb : Below W.heap.size W W') : KeepsOthers W W' :=
 ⟨hb.size, fun k o hk _ => (hb.block k (q4A.1 hk).1).trans hk⟩
theorem uh {β γ : Type} {B : Nat} {I : γ → β → World → Prop} (h : ∀ x, bX B (I x)) : bX B (fun s W => ∃ x, I x s W) :=
 fun s W W' row ⟨x, hs⟩ hg hr => ⟨x, h x s W W' row hs hg hr⟩
theorem rM : ∀ (l : List Sx.Tn) (p : Sx.Tn) (x : Sx.Tn × Sx.Tn), x ∈ Sx.cu p l → (x.1 = p ∨ x.1 ∈ l) ∧ x.2 ∈ l
 | [], p, x, h => by simp [Sx.cu] at h
 | t :: r, p, x, h => by
   simp only [Sx.cu, List.mem_cons] at h
   rcases h with rfl | h
   ·exact ⟨.inl rfl, by simp⟩
   ·have := rM r t x h
    exact ⟨.inr (by rcases this.1 with e | e <;> simp [e]), by simp [this.2]⟩
theorem fI {α : Type} {pre l : List α} {x : α} (h : pre ++ [x] <+: l) : x ∈ l := h.subset (by simp)
theorem aR {n : Nat} {A B : World} (h : Below n A B) {k : Nat} (hk : n ≤ k) (c : Nat) (v : Value) : Below n A (B.setCell ⟨k, c, none⟩ v) := aO h hk v
theorem dR {W : World} {b : Nat} {t : TypeId} {cs : Array Value} (h : W.heap[b]? = some (.cells cs t)) (i : Nat) (v : Value) : (W.setCell ⟨b, i, none⟩ v).heap[b]? = some (.cells (cs.setIfInBounds i v) t) := by
 obtain ⟨hlt, e⟩ := q4A.1 h
 simp [World.setCell, Array.getElem?_modify, h]
theorem put8 {W : World} {b : Nat} {t : TypeId} {c0 c1 c2 c3 c4 c5 c6 c7 : Value} (v0 v1 v2 v3 v4 v5 v6 v7 : Value) (h : W.heap[b]? = some (.cells #[c0, c1, c2, c3, c4, c5, c6, c7] t)) :
  ((((((((W.setCell ⟨b, 0, none⟩ v0).setCell ⟨b, 1, none⟩ v1).setCell ⟨b, 2, none⟩ v2).setCell ⟨b, 3, none⟩ v3).setCell ⟨b, 4, none⟩ v4).setCell ⟨b, 5, none⟩ v5).setCell ⟨b, 6, none⟩ v6).setCell ⟨b, 7, none⟩ v7).heap[b]? = some (.cells #[v0, v1, v2, v3, v4, v5, v6, v7] t) := by
 have e := dR (dR (dR (dR (dR (dR (dR (dR h 0 v0) 1 v1) 2 v2) 3 v3) 4 v4) 5 v5) 6 v6) 7 v7
 simp only [List.setIfInBounds_toArray, List.set_cons_zero, List.set_cons_succ] at e
 exact e
theorem rG {W : World} {b : Nat} {t : TypeId} {c0 : Value} (v0 : Value) (h : W.heap[b]? = some (.cells #[c0] t)) : (W.setCell ⟨b, 0, none⟩ v0).heap[b]? = some (.cells #[v0] t) := by
 obtain ⟨hlt, e⟩ := q4A.1 h
 simp [World.setCell, Array.getElem?_modify, h]
theorem grown_put {W W' : World} {b : Nat} (h : W.grownBy W' (some b)) (i : Nat) (v : Value) : W.grownBy (W'.setCell ⟨b, i, none⟩ v) (some b) :=
 ⟨h.os, h.tape, h.output, by simpa using h.size, fun k hk hn => (Below.heap_setCell _ _ _ _ (fun e => hn (by rw [e]))).trans (h.block k hk hn)⟩
theorem j6 (W : World) (b : Nat) : W.grownBy W (some b) := ⟨rfl, rfl, rfl, Nat.le_refl _, fun _ _ _ => rfl⟩
theorem IE (W : World) (b : Nat) (v0 v1 v2 v3 v4 v5 v6 v7 : Value) : W.grownBy ((((((((W.setCell ⟨b, 0, none⟩ v0).setCell ⟨b, 1, none⟩ v1).setCell ⟨b, 2, none⟩ v2).setCell ⟨b, 3, none⟩ v3).setCell ⟨b, 4, none⟩ v4).setCell ⟨b, 5, none⟩ v5).setCell ⟨b, 6, none⟩ v6).setCell ⟨b, 7, none⟩ v7) (some b) :=
 grown_put (grown_put (grown_put (grown_put (grown_put (grown_put (grown_put (grown_put (j6 W b) 0 v0) 1 v1) 2 v2) 3 v3) 4 v4) 5 v5) 6 v6) 7 v7
theorem dW {W W' : World} {b : Nat} {cs : Array Value} {t : TypeId} (hg : W.grownBy W' (some b)) (h : W.heap[b]? = some (.cells cs t)) : KeepsOthers W W' :=
 KeepsOthers.of_grownBy hg (fun j o e ho => by cases e; rw [h] at ho; cases ho; rfl)
theorem xR {w W : World} {N D : Nat} {a : Act} {x : Sx.Tn × Sx.Tn} {b : Bool} (hN : w.heap.size = N) (h4 : a.tmps.getD 4 undef = .pointer (some ⟨N + 1, 0, none⟩)) (h5 : a.tmps.getD 5 undef = .pointer (some ⟨N + 1 + 1, 0, none⟩)) (hd : a.defers = [{ target := .collected D, args := #[] }])
  (i1 : W.heap[N + 1]? = some (.cells (jE x).toArray 122)) (i2 : W.heap[N + 1 + 1]? = some (.cells #[.bool b] 4)) (hD : N + 1 + 1 < D) (hK : W.heap[D]? = some (.deferred (some []))) (hB : Below w.heap.size w W) :
  bodyPostM Fence.wide 4 Tryz.prog Tryz.f175 (fun e w' => ∃ p t : Sx.Tn, e = .returned (.tuple #[nJ p t, .bool b]) ∧ Below w.heap.size w w') .ret a W := by
 obtain ⟨tm, df⟩ := a
 dsimp only at h4 h5 hd
 subst hd
 rw [Array.getD_eq_getD_getElem?] at h4 h5
 have hX := belowK_b (w := w) (Nat.le_refl _) W D _ (.deferred none) (by omega) hK rfl rfl
 have j1 : (W.putObj D (.deferred none)).heap[N + 1]? = some (.cells (jE x).toArray 122) := (World.putObj_heap_other (by omega)).trans i1
 have j2 : (W.putObj D (.deferred none)).heap[N + 1 + 1]? = some (.cells #[.bool b] 4) := (World.putObj_heap_other (by omega)).trans i2
 refine ⟨by simp, .inl ⟨_, _, rfl, run_takeDeferred hK, ?_⟩⟩
 have BX := hB.trans hX
 generalize W.putObj D (.deferred none) = X at j1 j2 BX ⊢
 obtain ⟨⟨y0, _⟩, ⟨y1, _⟩, ⟨y2, _⟩, ⟨y3, _⟩, ⟨y4, _⟩, ⟨y5, _⟩, ⟨y6, _⟩, ⟨y7, _⟩, -⟩ := cp8 (aj j1)
 have b0 := (aa (aj (vs := [.bool b]) j2) 0 rfl).1
 clear j1 j2 i1 i2 hK hB hX
 refine ⟨.tuple #[nJ x.1 x.2, .bool b], ?_, x.1, x.2, rfl, BX⟩
 simp [results, Tryz.results175, go_sem, *]
theorem xh (Bo : Nat) (ts : List Sx.Tn) (ra : Option Addr) (rcap : Nat) (w : World) (h : jJ w (.slice ra ts.length rcap) ts) (hts : ts.length ≤ 10000) (hbd : ∀ t ∈ ts, -1000000000000 ≤ t.stands ∧ t.stands ≤ 1000000000000)
  (cl : w.cell? ⟨Bo, 0, none⟩ = some (.slice ra ts.length rcap)) (hBo : Bo < w.heap.size) :
  Calls Tryz.prog 175 #[.func (.func 131) #[] #[.pointer (some ⟨Bo, 0, none⟩)], .func (.func 130) #[] #[]] w
   fun e w' => ∃ p t : Sx.Tn, e = .returned (.tuple #[nJ p t, .bool ((Sx.bQ ts).any Sx.close)]) ∧ Below w.heap.size w w' := by
 refine (callsIn_wide (n := 4)).1 ?_
 refine callsIn_of_wp_marks Tryz.func175 rfl trivial ?_ rfl
 simp only [Tryz.ntmps175, List.size_toArray, List.length_cons, List.length_nil, Nat.reduceAdd, Nat.reduceSub, Array.replicate_succ, Array.replicate_zero, List.push_toArray, List.append_toArray, List.nil_append, List.cons_append]
 gi_wp2
 obtain ⟨N, hN⟩ : ∃ N, w.heap.size = N := ⟨_, rfl⟩
 obtain ⟨V, hV⟩ : ∃ V, (((w.alloc (.cells #[.func (.func 130) #[] #[]] 195)).alloc (.cells (jE noS).toArray 122)).alloc (.cells #[.bool false] 4)) = V := ⟨_, rfl⟩
 rw [show (((w.alloc (.cells #[.func (.func 130) #[] #[]] 195)).alloc (.cells #[.int .i64 0, .int .i64 0, .int .i64 0, .string ⟨#[]⟩, .int .i64 0, .int .i64 0, .int .i64 0, .string ⟨#[]⟩] 122)).alloc (.cells #[.bool false] 4)) = V from hV]
 have vS : V.heap.size = N + 3 := by rw [← hV, ← hN]; simp
 have v0 : V.heap[N]? = some (.cells #[.func (.func 130) #[] #[]] 195) := by
  rw [← hV, Below.heap_alloc _ _ _ (by simp; omega), Below.heap_alloc _ _ _ (by simp; omega), ← hN]; exact World.alloc_heap_new w _
 have v1 : V.heap[N + 1]? = some (.cells (jE noS).toArray 122) := by
  rw [← hV, Below.heap_alloc _ _ _ (by simp; omega), ← hN]
  have := World.alloc_heap_new (w.alloc (.cells #[.func (.func 130) #[] #[]] 195)) (.cells (jE noS).toArray 122)
  rwa [World.size_alloc] at this
 have v2 : V.heap[N + 1 + 1]? = some (.cells #[.bool false] 4) := by
  rw [← hV, ← hN]
  have := World.alloc_heap_new ((w.alloc (.cells #[.func (.func 130) #[] #[]] 195)).alloc (.cells (jE noS).toArray 122)) (.cells #[.bool false] 4)
  rwa [World.size_alloc, World.size_alloc] at this
 have vB : Below w.heap.size w V := by
  rw [← hV]; exact (((q4B _ w).alloc (Nat.le_refl _) _).alloc (by simp) _).alloc (by simp; omega) _
 rw [hN]
 refine gP rfl (by omega) (gf := 131) (lb := #[.pointer (some ⟨Bo, 0, none⟩)]) rfl trivial (enters_of Tryz.func131 (by kernel_rfl) rfl)
  (tH 3 Bo N (by omega) ts ra rcap w _ h hts ((vB.cell (p := ⟨Bo, 0, none⟩) hBo).trans cl) (q4N hBo vB.size) (by omega) vB) KH (KG (by omega)) (q4B _ _) (fun _ => rfl)
  (fun pre W => (W.heap[N]? = some (.cells #[.func (.func 130) #[] #[]] 195) ∧ W.heap[N + 1]? = some (.cells (jE noS).toArray 122) ∧ W.heap[N + 1 + 1]? = some (.cells #[.bool false] 4)) ∧ Below w.heap.size w W ∧ pre.any Sx.close = false)
  (fun c pre W => c = .ret ∧ (∃ x, W.heap[N + 1]? = some (.cells (jE x).toArray 122)) ∧ W.heap[N + 1 + 1]? = some (.cells #[.bool true] 4) ∧ Below w.heap.size w W ∧ pre.any Sx.close = true)
  (bX.and (bX.and (aV (by omega)) (bX.and (aV (by omega)) (aV (by omega)))) (bX.and (eY (Nat.le_refl _) (by omega)) (bN _)))
  (fun c => bX.and (bN _) (bX.and (uh fun x => aV (by omega)) (bX.and (aV (by omega)) (bX.and (eY (Nat.le_refl _) (by omega)) (bN _)))))
  ⟨⟨v0, v1, v2⟩, vB, rfl⟩
  (fun x a' W => ∃ Bx, N + 1 + 1 < Bx ∧ W.heap[Bx]? = some (.cells (jE x).toArray 122 (0, 0)) ∧ a' = { tmps := #[.func (.func 131) #[] #[.pointer (some ⟨Bo, 0, none⟩)], .func (.func 130) #[] #[], undef, .pointer (some ⟨N, 0, none⟩), .pointer (some ⟨N + 1, 0, none⟩), .pointer (some ⟨N + 1 + 1, 0, none⟩), .pointer (some ⟨Bx, 0, none⟩), undef, .func (.func 131) #[] #[.pointer (some ⟨Bo, 0, none⟩)], nJ x.1 x.2, undef, undef, undef, undef, undef], defers := [] })
  ?hAx ?assign ?body ?done ?stop
 case hAx =>
  rintro x a' _ X Y row ⟨Bx, q1, q2, q3⟩ hg hr
  refine ⟨Bx, q1, ?_, q3⟩
  rw [hg.block Bx (q4A.1 q2).1 (fun e => by obtain ⟨_, o, ho, hc⟩ := hr Bx e.symm; rw [q2] at ho; cases ho; simp [Obj.isCells] at hc)]
  exact q2
 case assign =>
  rintro l pre ⟨p, t⟩ W K ⟨⟨i0, i1, i2⟩, iB, iP⟩ sz hK
  rw [vS] at sz
  have KB := hid ((q4B W.heap.size W).alloc (Nat.le_refl _) (.cells (jE (p, t)).toArray 122))
  have R := hid (hK { tmps := #[.func (.func 131) #[] #[.pointer (some ⟨Bo, 0, none⟩)], .func (.func 130) #[] #[], undef, .pointer (some ⟨N, 0, none⟩), .pointer (some ⟨N + 1, 0, none⟩), .pointer (some ⟨N + 1 + 1, 0, none⟩), .pointer (some ⟨W.heap.size, 0, none⟩), undef, .func (.func 131) #[] #[.pointer (some ⟨Bo, 0, none⟩)], nJ p t, undef, undef, undef, undef, undef], defers := [] } (W.alloc (.cells (jE (p, t)).toArray 122)) ((KeepsOthers.alloc _ _).from _) (ug KB.out iB.size)
   ⟨⟨(KB.out.block _ (q4A.1 i0).1).trans i0, (KB.out.block _ (q4A.1 i1).1).trans i1, (KB.out.block _ (q4A.1 i2).1).trans i2⟩, iB.alloc iB.size _, iP⟩ ⟨W.heap.size, by omega, World.alloc_heap_new W _, rfl⟩)
  clear hK i0 i1 i2
  gi_wp2
  exact R.out
 case body =>
  rintro l pre ⟨p, t⟩ a' W hl ⟨r, hr⟩ ⟨⟨i0, i1, i2⟩, iB, iP⟩ ⟨Bx, hBx, hX, rfl⟩ hpx sz
  have hm := rM ts Sx.ago (p, t) (fI hpx)
  dsimp only at hm
  have hb1 : -2000000000000 ≤ p.stands ∧ p.stands ≤ 2000000000000 := by
   rcases hm.1 with rfl | e
   ·simp [Sx.ago]
   ·have := hbd _ e; omega
  have hb2 := hbd _ hm.2
  have HC := hid (Cz (p, t) W hb1.1 hb1.2 (by dsimp only; omega) (by dsimp only; omega))
  obtain ⟨⟨x0, _⟩, ⟨x1, _⟩, ⟨x2, _⟩, ⟨x3, _⟩, ⟨x4, _⟩, ⟨x5, _⟩, ⟨x6, _⟩, ⟨x7, _⟩, -⟩ := cp8 (aj hX)
  have f0 := (aa (aj (vs := [.func (.func 130) #[] #[]]) i0) 0 rfl).1
  have sx := (q4A.1 hX).1
  have s0 := (q4A.1 i0).1
  have HX := hid hX
  have I0 := hid i0
  have I1 := hid i1
  have I2 := hid i2
  have IB := hid iB
  clear hm hb1 hb2 hX i0 i1 i2 iB hr hpx
  dsimp only at HC
  obtain ⟨C, hC⟩ : ∃ C, Sx.close (p, t) = C := ⟨_, rfl⟩
  rw [hC] at HC
  have HCC := hid hC
  have IP := hid iP
  have SV : Hid (V.heap.size = N + 3 ∧ w.heap.size = N) := ⟨vS, hN⟩
  clear hC iP
  cases C
  case false =>
   gi_wp2_with (refine ⟨trivial, ?_⟩; gi_at_call 130; refine (CallsIn.inRound l (callsIn_wide.2 HC.out)).mono ?_; rintro e w1 ⟨rfl, hb⟩)
   refine ⟨(cO hb).from _, ug hb IB.out.size, ⟨(hb.block _ (q4A.1 I0.out).1).trans I0.out, (hb.block _ (q4A.1 I1.out).1).trans I1.out, (hb.block _ (q4A.1 I2.out).1).trans I2.out⟩, IB.out.trans (hb.mono IB.out.size), ?_⟩
   rw [List.any_append, IP.out]; simp [HCC.out]
  case true =>
   gi_wp2_with (refine ⟨trivial, ?_⟩; gi_at_call 130; refine (CallsIn.inRound l (callsIn_wide.2 HC.out)).mono ?_; rintro e w1 ⟨rfl, hb⟩; have HB := hid hb; have CX := ai (aj HX.out) hb; obtain ⟨y0, _⟩ := aa CX 0 rfl; obtain ⟨y1, _⟩ := aa CX 1 rfl; obtain ⟨y2, _⟩ := aa CX 2 rfl; obtain ⟨y3, _⟩ := aa CX 3 rfl; obtain ⟨y4, _⟩ := aa CX 4 rfl; obtain ⟨y5, _⟩ := aa CX 5 rfl; obtain ⟨y6, _⟩ := aa CX 6 rfl; obtain ⟨y7, _⟩ := aa CX 7 rfl; have CR := ai (aj I1.out) hb; obtain ⟨r0, q0⟩ := aa CR 0 rfl; obtain ⟨r1, q1⟩ := aa CR 1 rfl; obtain ⟨r2, q2⟩ := aa CR 2 rfl; obtain ⟨r3, q3⟩ := aa CR 3 rfl; obtain ⟨r4, q4⟩ := aa CR 4 rfl; obtain ⟨r5, q5⟩ := aa CR 5 rfl; obtain ⟨r6, q6⟩ := aa CR 6 rfl; obtain ⟨r7, q7⟩ := aa CR 7 rfl; have CB := ai (aj (vs := [.bool false]) I2.out) hb; obtain ⟨b0, b1⟩ := aa CB 0 rfl; have sR := CR.1; have sB := CB.1; clear hb CX CR CB)
   have G1 := IE w1 (N + 1) (.int .i64 p.stands) (.int .i64 p.clock) (.int .i64 p.save) (ag p.letter) (.int .i64 t.stands) (.int .i64 t.clock) (.int .i64 t.save) (ag t.letter)
   have hb := HB.out
   have e1 := (hb.block _ (q4A.1 I1.out).1).trans I1.out
   have e2 := (hb.block _ (q4A.1 I2.out).1).trans I2.out
   have p1 := put8 (.int .i64 p.stands) (.int .i64 p.clock) (.int .i64 p.save) (ag p.letter) (.int .i64 t.stands) (.int .i64 t.clock) (.int .i64 t.save) (ag t.letter) e1
   have p2 := (G1.block (N + 1 + 1) (q4A.1 e2).1 (by simp)).trans e2
   have p3 := rG (.bool true) p2
   have G2 := grownBy_setCell' ((((((((w1.setCell ⟨N + 1, 0, none⟩ (.int .i64 p.stands)).setCell ⟨N + 1, 1, none⟩ (.int .i64 p.clock)).setCell ⟨N + 1, 2, none⟩ (.int .i64 p.save)).setCell ⟨N + 1, 3, none⟩ (ag p.letter)).setCell ⟨N + 1, 4, none⟩ (.int .i64 t.stands)).setCell ⟨N + 1, 5, none⟩ (.int .i64 t.clock)).setCell ⟨N + 1, 6, none⟩ (.int .i64 t.save)).setCell ⟨N + 1, 7, none⟩ (ag t.letter)) (N + 1 + 1) (.bool true)
   have B1 := IB.out.trans (hb.mono IB.out.size)
   have B2 := B1.grown G1 B1.size (fun k e => by cases e; have := SV.out; omega)
   have B3 := B2.grown G2 B2.size (fun k e => by cases e; have := SV.out; omega)
   refine ⟨(((cO hb).trans (dW G1 e1)).trans (dW G2 p2)).from _, rfl, ⟨(p, t), ?_⟩, p3, B3, ?_⟩
   ·exact (G2.block (N + 1) (q4A.1 p1).1 (by simp)).trans p1
   ·rw [List.any_append]; simp [HCC.out]
 case done =>
  rintro D ys W hD rfl ⟨⟨i0, i1, i2⟩, iB, iP⟩ hK
  rw [vS] at hD
  have hD0 : N + 1 + 1 < D := by omega
  have CR := aj i1
  have CB := aj (vs := [.bool false]) i2
  obtain ⟨⟨r0, q0⟩, ⟨r1, q1⟩, ⟨r2, q2⟩, ⟨r3, q3⟩, ⟨r4, q4⟩, ⟨r5, q5⟩, ⟨r6, q6⟩, ⟨r7, q7⟩, -⟩ := cp8 CR
  obtain ⟨b0, b1⟩ := aa CB 0 rfl
  have sR := CR.1
  have sB := CB.1
  have HK := hid hK
  have IB := hid iB
  have IP := hid iP
  have I1 := hid i1
  have I2 := hid i2
  clear i0 i1 i2 CR CB hK iB iP v0 v1 v2 vB hV vS h hbd cl
  gi_wp2
  have G0 := World.grownBy_alloc W (.cells (jE noS).toArray 122) none
  have G1 := IE W (N + 1) (.int .i64 0) (.int .i64 0) (.int .i64 0) (.string ⟨#[]⟩) (.int .i64 0) (.int .i64 0) (.int .i64 0) (.string ⟨#[]⟩)
  have p1 := put8 (.int .i64 0) (.int .i64 0) (.int .i64 0) (.string ⟨#[]⟩) (.int .i64 0) (.int .i64 0) (.int .i64 0) (.string ⟨#[]⟩) I1.out
  have p2 := (G1.block (N + 1 + 1) (q4A.1 I2.out).1 (by simp)).trans I2.out
  have p3 := rG (.bool false) p2
  have G2 := grownBy_setCell' ((((((((W.setCell ⟨N + 1, 0, none⟩ (.int .i64 0)).setCell ⟨N + 1, 1, none⟩ (.int .i64 0)).setCell ⟨N + 1, 2, none⟩ (.int .i64 0)).setCell ⟨N + 1, 3, none⟩ (.string ⟨#[]⟩)).setCell ⟨N + 1, 4, none⟩ (.int .i64 0)).setCell ⟨N + 1, 5, none⟩ (.int .i64 0)).setCell ⟨N + 1, 6, none⟩ (.int .i64 0)).setCell ⟨N + 1, 7, none⟩ (.string ⟨#[]⟩)) (N + 1 + 1) (.bool false)
  have p4 := (G2.block (N + 1) (q4A.1 p1).1 (by simp)).trans p1
  have d1 := (G1.block D (q4A.1 HK.out).1 (by simp; omega)).trans HK.out
  have d2 := (G2.block D (q4A.1 d1).1 (by simp; omega)).trans d1
  have B2 := IB.out.grown G1 IB.out.size (fun k e => by cases e; omega)
  have B3 := B2.grown G2 B2.size (fun k e => by cases e; omega)
  have B4 := B3.alloc B3.size (.cells (jE noS).toArray 122)
  rw [show (Sx.bQ ts).any Sx.close = false from IP.out]
  exact xR (x := noS) hN rfl rfl rfl ((Below.heap_alloc _ _ _ (q4A.1 p4).1).trans p4) ((Below.heap_alloc _ _ _ (q4A.1 p3).1).trans p3) hD0 ((Below.heap_alloc _ _ _ (q4A.1 d2).1).trans d2) B4
 case stop =>
  rintro D c pre W hD hpre ⟨rfl, ⟨x, i1⟩, i2, iB, iP⟩ hK
  rw [vS] at hD
  have hA : (Sx.bQ ts).any Sx.close = true := by
   obtain ⟨r, hr⟩ := hpre
   rw [← hr, List.any_append, iP]; rfl
  have E := hid (xR (a := { tmps := #[.func (.func 131) #[] #[.pointer (some ⟨Bo, 0, none⟩)], .func (.func 130) #[] #[], undef, .pointer (some ⟨N, 0, none⟩), .pointer (some ⟨N + 1, 0, none⟩), .pointer (some ⟨N + 1 + 1, 0, none⟩), undef, undef, .func (.func 131) #[] #[.pointer (some ⟨Bo, 0, none⟩)], undef, undef, undef, undef, undef, undef], defers := [{ target := .collected D, args := #[] }] }) hN rfl rfl rfl i1 i2 (show N + 1 + 1 < D by omega) hK iB)
  have HA := hid hA
  clear v0 v1 v2 vB hV vS h hbd cl i1 i2 hK iB iP hA
  gi_wp2
  rw [HA.out]
  exact E.out
theorem BJ (Bo : Nat) (ts : List Sx.Tn) (ra : Option Addr) (rcap : Nat) (w : World) (h : jJ w (.slice ra ts.length rcap) ts) (hts : ts.length ≤ 10000) (hbd : ∀ t ∈ ts, -1000000000000 ≤ t.stands ∧ t.stands ≤ 1000000000000)
  (cl : w.cell? ⟨Bo, 0, none⟩ = some (.slice ra ts.length rcap)) (hBo : Bo < w.heap.size) :
  Calls Tryz.prog 129 #[.func (.func 131) #[] #[.pointer (some ⟨Bo, 0, none⟩)], .func (.func 130) #[] #[]] w
   fun e w' => e = .returned (.bool ((Sx.bQ ts).any Sx.close)) ∧ Below w.heap.size w w' := by
 have C := hid (xh Bo ts ra rcap w h hts hbd cl hBo)
 clear h hbd cl
 go_enter Tryz.func129, Tryz.ntmps129
 go_wp2_with fail
 refine C.out.mono ?_
 rintro e w1 ⟨p, t, rfl, hb⟩
 have HB := hid hb
 clear hb
 go_wp2
 go_ret
 exact ⟨rfl, HB.out.alloc HB.out.size _⟩
/- what is wrong with turns in order -/
def jd (ts : List Sx.Tn) : Int := if ts.isEmpty = true then 5 else if (Sx.bQ ts).any Sx.close = true then 4 else if 1000 < ts.length then 2 else 0
theorem mX (ts : List Sx.Tn) (v : Value) (w : World) (h : jJ w v ts) (hts : ts.length ≤ 10000) (hbd : ∀ t ∈ ts, -1000000000000 ≤ t.stands ∧ t.stands ≤ 1000000000000) :
  Calls Tryz.prog 67 #[v] w fun e w' => e = .returned (.int .i64 (jd ts)) ∧ Below w.heap.size w w' := by
 obtain ⟨ra, rcap, rfl⟩ := bP h
 by_cases he : ts = []
 ·subst he
  have hz : Hid (jd [] = 5) := rfl
  clear h hts hbd
  go_enter Tryz.func67, Tryz.ntmps67
  go_wp2
  go_ret
  exact ⟨ay hz.out.symm, q4B _ _⟩
 have hl : ts.length ≠ 0 := fun q => he (List.length_eq_zero_iff.1 q)
 have hl0 : (ts.length == 0) = false := by simp [he]
 have hz : (((ts.length : Int)) == 0) = false := by simp; exact he
 have B1 := hid ((q4B w.heap.size w).alloc (Nat.le_refl _) (.cells #[.slice ra ts.length rcap] 110))
 have C := hid (BJ w.heap.size ts ra rcap (w.alloc (.cells #[.slice ra ts.length rcap] 110)) (au h B1.out) hts hbd (aa (aD w [.slice ra ts.length rcap] 110) 0 rfl).1 (by simp))
 obtain ⟨A, hA⟩ : ∃ A, (Sx.bQ ts).any Sx.close = A := ⟨_, rfl⟩
 have HE : Hid (jd ts = if A = true then 4 else if 1000 < ts.length then 2 else 0) := by
  show _ = _
  unfold jd
  rw [if_neg (by simp [he]), hA]
 rw [hA] at C
 clear h hbd hA
 cases A
 case true =>
  go_enter Tryz.func67, Tryz.ntmps67
  go_wp2_with (first | (go_at_call 68; refine (ow _ _ _ _).mono ?_; rintro e w1 ⟨rfl, rfl⟩) | (go_at_call 129; refine C.out.mono ?_; rintro e w1 ⟨rfl, hb⟩))
  go_ret
  exact ⟨ay (by rw [HE.out]; rfl), B1.out.trans (hb.mono B1.out.size)⟩
 case false =>
  by_cases hm : 1000 < ts.length
  ·have HE2 : Hid (jd ts = 2) := by show _ = _; rw [HE.out, if_neg (by decide), if_pos hm]
   go_enter Tryz.func67, Tryz.ntmps67
   go_wp2_with (first | (go_at_call 68; refine (ow _ _ _ _).mono ?_; rintro e w1 ⟨rfl, rfl⟩) | (go_at_call 129; refine C.out.mono ?_; rintro e w1 ⟨rfl, hb⟩))
   go_ret
   exact ⟨ay HE2.out.symm, B1.out.trans (hb.mono B1.out.size)⟩
  ·have HE2 : Hid (jd ts = 0) := by show _ = _; rw [HE.out, if_neg (by decide), if_neg hm]
   go_enter Tryz.func67, Tryz.ntmps67
   go_wp2_with (first | (go_at_call 68; refine (ow _ _ _ _).mono ?_; rintro e w1 ⟨rfl, rfl⟩) | (go_at_call 129; refine C.out.mono ?_; rintro e w1 ⟨rfl, hb⟩))
   go_ret
   exact ⟨ay HE2.out.symm, B1.out.trans (hb.mono B1.out.size)⟩
end
section
open Go.RowKit Go.Shelf
attribute [local go_sem] Oper.semAt_some

theorem Tryz.I4 : (Tryz.prog.info? 120).map (fun i => (i.zero, i.size, i.bytes)) = some (some (.agg #[.int .i64 0, .int .i64 0, .int .i64 0, .string ⟨#[]⟩]), 4, 40) := by kernel_rfl
theorem kp_t {n₀ Bs : Nat} {T : TypeId} {A B C : World} (h : Kp n₀ T Bs A B) (k : Kp n₀ T Bs B C) : Kp n₀ T Bs A C := ⟨h.1.trans k.1, zm h.2 k.2⟩
theorem kp_b {n₀ Bs : Nat} {T : TypeId} {w : World} (hn : n₀ ≤ w.heap.size) (W : World) (l : Nat) (o o' : Obj) (a : w.heap.size ≤ l) (b : W.heap[l]? = some o) (c : o.isCells = false) (d : o.isWalk = false) : Kp n₀ T Bs W (W.putObj l o') :=
 ⟨belowK_b hn W l o o' a b c d, EJ (w := w) W l o o' a b c d⟩
theorem Cn (n Bl Bn Bs : Nat) (hn : 1 ≤ n) (rs : List Sx.Rl) (name : Tx.Bs) (ra : Option Addr) (rcap : Nat) (W0 w : World) (h : bY W0 (.slice ra rs.length rcap) rs) (hok : ∀ r ∈ rs, Sx.jw r) (hrs : rs.length ≤ 40)
  (cl : W0.cell? ⟨Bl, 0, none⟩ = some (.slice ra rs.length rcap)) (cn : W0.cell? ⟨Bn, 0, none⟩ = some (ag name)) (hBl : Bl < W0.heap.size) (hBn : Bn < W0.heap.size) (hBs : Bs < w.heap.size) (hW : Below W0.heap.size W0 w) :
  SeqStopsK Fence.wide n Tryz.prog 127 #[.pointer (some ⟨Bl, 0, none⟩), .pointer (some ⟨Bn, 0, none⟩)] (fun t : Sx.Tn => #[wG t]) (Kp W0.heap.size 120 Bs) (fun ys => ys = Sx.turnsOf rs name) (fun pre => pre <+: Sx.turnsOf rs name) (Sx.turnsOf rs name).length w :=
 fun l J Jx W hW1 hJ hJx hY h0 => Ha n l Bl Bn Bs hn rs name ra rcap W0 W h hok hrs cl cn hBl hBn (q4N hBs hW1.size) (hW.trans (hW1.mono hW.size)) J Jx hJ hY h0

theorem xY {T : TypeId} {Bs B z n : Nat} {W w1 : World} {v u : Value} {xs : List Value} {o : Obj} (hrow : W.ownsRow B T z v n xs) (hg : (W.alloc o).grownBy w1 v.ownBlock) : xw T Bs W (w1.setCell ⟨Bs, 0, none⟩ u) := by
 have hs := hg.size
 simp at hs
 refine ⟨by simp; omega, fun k cs t a ht hk => ?_⟩
 have hk2 := (q4A.1 a).1
 rw [Below.heap_setCell _ _ _ _ hk, hg.block k (by simp; omega) ?_, Below.heap_alloc _ _ _ hk2]
 ·exact a
 ·intro e
  rcases hrow.2 with ⟨rfl, _⟩ | ⟨g, cap, cur, rfl, _, hh, _⟩
  ·simp [Value.ownBlock] at e
  ·simp [Value.ownBlock] at e
   subst e
   rw [hh] at a
   simp at a
   exact ht a.2.symm
theorem JY {W : World} {b : Nat} {vs : List Value} {t : TypeId} (h : W.heap[b]? = some (.cells vs.toArray t (0, 0))) : ak W b vs := by
 refine ⟨(q4A.1 h).1, fun k v hv => ?_⟩
 simp [World.cell?, World.frozen?, h, hv]
theorem Ck (x : Sx.Tn) : ∀ u ∈ cZ x, u.oneCell' = true := by
 intro u hu; simp only [cZ, List.mem_cons, List.not_mem_nil, or_false] at hu; rcases hu with rfl | rfl | rfl | rfl <;> rfl
theorem El (w : World) (x : Sx.Tn) {e : TypeId} : ∀ (j : Nat) (u : Value), (cZ x)[j]? = some u → (w.alloc (.cells #[.int .i64 x.stands, .int .i64 x.clock, .int .i64 x.save, ag x.letter] e)).cell? ((⟨w.heap.size, 0, none⟩ : Addr).add j) = some u := ol w (cZ x)
theorem wP (Bl Bn : Nat) (rs : List Sx.Rl) (name : Tx.Bs) (ra : Option Addr) (rcap : Nat) (w : World) (h : bY w (.slice ra rs.length rcap) rs) (hok : ∀ r ∈ rs, Sx.jw r) (hrs : rs.length ≤ 40)
  (cl : w.cell? ⟨Bl, 0, none⟩ = some (.slice ra rs.length rcap)) (cn : w.cell? ⟨Bn, 0, none⟩ = some (ag name)) (hBl : Bl < w.heap.size) (hBn : Bn < w.heap.size) (hN : (Sx.turnsOf rs name).length ≤ 10000) :
  Calls Tryz.prog 200 #[.slice none 0 0, .func (.func 127) #[] #[.pointer (some ⟨Bl, 0, none⟩), .pointer (some ⟨Bn, 0, none⟩)]] w
   fun e w' => ∃ v, e = .returned v ∧ w'.ownsRow w.heap.size 120 4 v (Sx.turnsOf rs name).length ((Sx.turnsOf rs name).flatMap cZ) ∧ Below w.heap.size w w' := by
 obtain ⟨i0, hi, hz0, hz1, hz2⟩ := info_parts Tryz.I4
 refine (callsIn_wide (n := 4)).1 ?_
 refine callsIn_of_wp_marks Tryz.func200 rfl trivial ?_ rfl
 simp only [Tryz.ntmps200, List.size_toArray, List.length_cons, List.length_nil, Nat.reduceAdd, Nat.reduceSub, Array.replicate_succ, Array.replicate_zero, List.push_toArray, List.append_toArray, List.nil_append, List.cons_append]
 gi_wp2
 have bO := Boxed.new w 110 (.slice none 0 0)
 have hB0 : Below w.heap.size w (w.alloc (.cells #[.slice none 0 0] 110)) := (q4B _ w).alloc (Nat.le_refl _) _
 refine wpIn_rangeFunc_ownH rfl (by omega) (gf := 127) (lb := #[.pointer (some ⟨Bl, 0, none⟩), .pointer (some ⟨Bn, 0, none⟩)]) rfl trivial (enters_of Tryz.func127 (by kernel_rfl) rfl)
  (Cn 3 Bl Bn w.heap.size (by omega) rs name ra rcap w _ h hok hrs cl cn hBl hBn (by simp) hB0) kp_t (kp_b (by simp)) (q4B _ _) (fun _ => rfl)
  (fun (pre : List Sx.Tn) W => (∃ v, Boxed W w.heap.size 110 v ∧ W.ownsRow w.heap.size 120 4 v pre.length (pre.flatMap cZ) ∧ True) ∧ Below w.heap.size w W)
  (fun _ _ _ => False)
  (OwnFrom.and (Own.from (holdsRow_own w.heap.size w.heap.size 110 120 4 (fun (pre : List Sx.Tn) => pre.length) (fun (pre : List Sx.Tn) => pre.flatMap cZ) (fun (pre : List Sx.Tn) v => True)) _) (ownFrom_below (Nat.le_refl _) (by simp)))
  (fun _ _ _ _ _ hs _ _ => hs)
  ⟨⟨_, bO, World.ownsRow_nil _ _ _ _, trivial⟩, hB0⟩
  (fun x a' W => ∃ Bx, w.heap.size < Bx ∧ W.heap[Bx]? = some (.cells (cZ x).toArray 120 (0, 0)) ∧ a' = { tmps := #[.slice none 0 0, .func (.func 127) #[] #[.pointer (some ⟨Bl, 0, none⟩), .pointer (some ⟨Bn, 0, none⟩)], .pointer (some ⟨w.heap.size, 0, none⟩), undef, .slice none 0 0, .pointer (some ⟨Bx, 0, none⟩), .func (.func 127) #[] #[.pointer (some ⟨Bl, 0, none⟩), .pointer (some ⟨Bn, 0, none⟩)], wG x, undef, undef, undef, undef, undef], defers := [] })
  ?hAx ?assign ?body ?done ?stop
 case hAx =>
  rintro x a' _ X Y row ⟨Bx, q1, q2, q3⟩ hg hr
  refine ⟨Bx, q1, ?_, q3⟩
  rw [hg.block Bx (q4A.1 q2).1 (fun e => by obtain ⟨_, o, ho, hc⟩ := hr Bx e.symm; rw [q2] at ho; cases ho; simp [Obj.isCells] at hc)]
  exact q2
 case assign =>
  rintro l pre x W K ⟨⟨v, hv, hrow, _⟩, hB1⟩ hK
  gi_wp2
  refine hK _ _ ((KeepsOthers.alloc _ _).from _) ⟨(q4B _ W).alloc hB1.size _, ?_⟩ ⟨⟨v, hv.alloc _, hrow.alloc _, trivial⟩, hB1.alloc hB1.size _⟩ ⟨W.heap.size, hv.lt, World.alloc_heap_new W _, rfl⟩
  exact ⟨by simp, fun k cs t a _ _ => by rw [Below.heap_alloc _ _ _ (q4A.1 a).1]; exact a⟩
 case body =>
  rintro l pre x a' W hl ⟨r, hr⟩ ⟨⟨v, hv, hrow, _⟩, hB⟩ ⟨Bx, hBx, hX, rfl⟩ hlt
  have hc := hv.cell
  have CX := JY hX
  obtain ⟨⟨x0, _⟩, ⟨x1, _⟩, ⟨x2, _⟩, ⟨x3, _⟩, sx⟩ := cp4 CX
  have hpl : pre.length + 1 ≤ 10000 := by omega
  gi_wp2_with (gi_at_builtin; refine wpListIn_append_own _ rfl _ _ 110 rfl w.heap.size 120 i0 (.agg #[.int .i64 0, .int .i64 0, .int .i64 0, .string ⟨#[]⟩]) 4 40 Tryz.underlying110 hi hz0 hz1 hz2 rfl (by decide) _ _ _ rfl (hrow.alloc _) ⟨W.heap.size, 0, none⟩ 1 1 (cZ x) rfl rfl (El _ _) (Ck x) (by unfold maxLen; omega) (by omega) (by have := hB.size; simp; omega) ?_; intro v' w1 hown' hgrow _; obtain ⟨g', cap', rfl⟩ := ownsRow_succ hown'; obtain ⟨hv1, hv2, hr2, hk2, hb2⟩ := hv.appended (by decide) hrow hB.size (Nat.le_refl _) hown' hgrow; have hc1 := hv1.cell; have hf1 := hv1.frozen)
  exact ⟨hk2.from _, ⟨hb2, xY hrow hgrow⟩, ⟨_, hv2, by simpa using hr2, trivial⟩, hB.trans hb2⟩
 case done =>
  rintro D ys W hD rfl ⟨⟨v, hv, hrow, _⟩, hB⟩ hK
  have hc := hv.cell
  gi_wp2
  refine ⟨by simp, .inl ⟨_, _, rfl, run_takeDeferred hK, ?_⟩⟩
  exact ⟨_, results_tmp rfl _ _ _, v, rfl, ownsRow_putObj hrow _ hK rfl, hB.trans (belowK_b (w := w) (Nat.le_refl _) W D _ _ (by simp at hD; omega) hK rfl rfl)⟩
 case stop =>
  rintro D c pre W _ _ h _
  exact h.elim
end
section
open Go.RowKit Go.Shelf

theorem yG (rv : Value) (name : Tx.Bs) (w : World) (ra : Option Addr) (n rcap : Nat) (hrv : rv = .slice ra n rcap) :
  Calls Tryz.prog 66 #[rv, ag name] w fun e w' => e = .returned (.func (.func 127) #[] #[.pointer (some ⟨w.heap.size, 0, none⟩), .pointer (some ⟨w.heap.size + 1, 0, none⟩)]) ∧ w' = (w.alloc (.cells #[rv] 22)).alloc (.cells #[ag name] 9) := by
 subst hrv
 go_enter Tryz.func66, Tryz.ntmps66
 go_wp2
 go_ret
 exact ⟨rfl, rfl⟩
theorem Al (Bl Bn : Nat) (rs : List Sx.Rl) (name : Tx.Bs) (ra : Option Addr) (rcap : Nat) (w : World) (h : bY w (.slice ra rs.length rcap) rs) (hok : ∀ r ∈ rs, Sx.jw r) (hrs : rs.length ≤ 40)
  (cl : w.cell? ⟨Bl, 0, none⟩ = some (.slice ra rs.length rcap)) (cn : w.cell? ⟨Bn, 0, none⟩ = some (ag name)) (hBl : Bl < w.heap.size) (hBn : Bn < w.heap.size) (hN : (Sx.turnsOf rs name).length ≤ 10000) :
  Calls Tryz.prog 172 #[.func (.func 127) #[] #[.pointer (some ⟨Bl, 0, none⟩), .pointer (some ⟨Bn, 0, none⟩)]] w
   fun e w' => ∃ v, e = .returned v ∧ w'.ownsRow w.heap.size 120 4 v (Sx.turnsOf rs name).length ((Sx.turnsOf rs name).flatMap cZ) ∧ Below w.heap.size w w' := by
 have C := hid (wP Bl Bn rs name ra rcap w h hok hrs cl cn hBl hBn hN)
 clear h hok cl cn hN
 go_enter Tryz.func172, Tryz.ntmps172
 go_wp2_with fail
 refine C.out.mono ?_
 rintro e w1 ⟨v, rfl, hown, hb⟩
 go_wp2
 go_ret
 exact ⟨_, rfl, hown, hb⟩
/- there are not too many -/
theorem rR {rs : List Sx.Rl} {name : Tx.Bs} (h : ∀ r ∈ rs, Sx.jw r) (hl : rs.length ≤ 40) : (Sx.turnsOf rs name).length ≤ 10000 := by
 have key : ∀ l : List Sx.Rl, (∀ r ∈ l, Sx.jw r) → (Sx.turnsOf l name).length ≤ 201 * l.length := by
  intro l
  induction l with
  | nil => intro _; simp [Sx.turnsOf]
  | cons r l ih =>
    intro hr
    have ih := ih fun x hx => hr x (by simp [hx])
    have ok := hr r (by simp)
    have hm : (Sx.mr r).length ≤ 201 := by have := ok.frm; have := ok.le; have := ok.to; simp [Sx.mr, Sx.many]; omega
    unfold Sx.turnsOf at ih ⊢
    cases q : (r.name == name)
    ·simp only [List.filter_cons, q, Bool.false_eq_true, if_false, List.length_cons]; omega
    ·simp only [List.filter_cons, q, if_true, List.flatMap_cons, List.length_append, List.length_cons]; omega
 have := key rs h
 omega
end
end Go.Proofs.YtkhlkohlccndgaaGreat
namespace Go.Proofs
open Go.Shelf
def Tryz.rD : Go.Shelf.Ren := ⟨fun | 6 => 173 | 15 => 202 | 14 => 201 | 28 => 221 | 29 => 222 | 20 => 213 | 21 => 214 | 22 => 215 | 23 => 216 | 24 => 217 | 25 => 218 | 26 => 219 | 27 => 220 | 46 => 236 | 47 => 237 | 48 => 238 | 49 => 239 | 50 => 240 | 57 => 245 | n => n, fun | 22 => 110 | 24 => 120 | 25 => 191 | 3 => 3 | 39 => 230 | 0 => 0 | 53 => 258 | 55 => 260 | 4 => 4 | 46 => 251 | 45 => 250 | 50 => 255 | 5 => 5 | 9 => 9 | 66 => 266 | 70 => 270 | 76 => 276 | 77 => 139 | n => n, fun | n => n⟩
theorem Tryz.qy : Go.Proofs.SlLaysF0.n6 Tryz.prog Tryz.rD := {
 mixed := by kernel_rfl
 f6 := ⟨Tryz.f173.name, by decide, Tryz.func173.trans (congrArg some (by kernel_rfl))⟩
 f14 := ⟨Tryz.f201.name, by decide, Tryz.func201.trans (congrArg some (by kernel_rfl))⟩
 f15 := Tryz.func202.trans (congrArg some (by kernel_rfl))
 f20 := ⟨Tryz.f213.name, by decide, Tryz.func213.trans (congrArg some (by kernel_rfl))⟩
 f21 := ⟨Tryz.f214.name, by decide, Tryz.func214.trans (congrArg some (by kernel_rfl))⟩
 f22 := ⟨Tryz.f215.name, by decide, Tryz.func215.trans (congrArg some (by kernel_rfl))⟩
 f23 := ⟨Tryz.f216.name, by decide, Tryz.func216.trans (congrArg some (by kernel_rfl))⟩
 f24 := ⟨Tryz.f217.name, by decide, Tryz.func217.trans (congrArg some (by kernel_rfl))⟩
 f25 := ⟨Tryz.f218.name, by decide, Tryz.func218.trans (congrArg some (by kernel_rfl))⟩
 f26 := ⟨Tryz.f219.name, by decide, Tryz.func219.trans (congrArg some (by kernel_rfl))⟩
 f27 := ⟨Tryz.f220.name, by decide, Tryz.func220.trans (congrArg some (by kernel_rfl))⟩
 f28 := Tryz.func221.trans (congrArg some (by kernel_rfl))
 f29 := Tryz.func222.trans (congrArg some (by kernel_rfl))
 f46 := ⟨Tryz.f236.name, by decide, Tryz.func236.trans (congrArg some (by kernel_rfl))⟩
 f47 := Tryz.func237.trans (congrArg some (by kernel_rfl))
 f48 := Tryz.func238.trans (congrArg some (by kernel_rfl))
 f49 := ⟨Tryz.f239.name, by decide, Tryz.func239.trans (congrArg some (by kernel_rfl))⟩
 f50 := ⟨Tryz.f240.name, by decide, Tryz.func240.trans (congrArg some (by kernel_rfl))⟩
 f57 := ⟨Tryz.f245.name, by decide, Tryz.func245.trans (congrArg some (by kernel_rfl))⟩
 t0 := Tryz.underlying0
 a0 := Tryz.isAgg0
 z0 := Tryz.sizeOf0
 v0 := Tryz.zeroValue0
 t3 := Tryz.underlying3
 a3 := Tryz.isAgg3
 z3 := Tryz.sizeOf3
 v3 := Tryz.zeroValue3
 t4 := Tryz.underlying4
 a4 := Tryz.isAgg4
 z4 := Tryz.sizeOf4
 v4 := Tryz.zeroValue4
 t5 := Tryz.underlying5
 a5 := Tryz.isAgg5
 z5 := Tryz.sizeOf5
 v5 := Tryz.zeroValue5
 t9 := Tryz.underlying9
 a9 := Tryz.isAgg9
 z9 := Tryz.sizeOf9
 v9 := Tryz.zeroValue9
 t22 := Tryz.underlying110
 a22 := Tryz.isAgg110
 z22 := Tryz.sizeOf110
 v22 := Tryz.zeroValue110
 t25 := Tryz.underlying191
 a25 := Tryz.isAgg191
 z25 := Tryz.sizeOf191
 v25 := Tryz.zeroValue191
 t39 := Tryz.underlying230
 a39 := Tryz.isAgg230
 z39 := Tryz.sizeOf230
 v39 := Tryz.zeroValue230
 t45 := Tryz.underlying250
 a45 := Tryz.isAgg250
 z45 := Tryz.sizeOf250
 v45 := Tryz.zeroValue250
 t46 := Tryz.underlying251
 a46 := Tryz.isAgg251
 z46 := Tryz.sizeOf251
 v46 := Tryz.zeroValue251
 t50 := Tryz.underlying255
 a50 := Tryz.isAgg255
 z50 := Tryz.sizeOf255
 v50 := Tryz.zeroValue255
 t53 := Tryz.underlying258
 a53 := Tryz.isAgg258
 z53 := Tryz.sizeOf258
 v53 := Tryz.zeroValue258
 t55 := Tryz.underlying260
 a55 := Tryz.isAgg260
 z55 := Tryz.sizeOf260
 v55 := Tryz.zeroValue260
 t66 := Tryz.underlying266
 a66 := Tryz.isAgg266
 z66 := Tryz.sizeOf266
 v66 := Tryz.zeroValue266
 t70 := Tryz.underlying270
 a70 := Tryz.isAgg270
 z70 := Tryz.sizeOf270
 v70 := Tryz.zeroValue270
 t76 := Tryz.underlying276
 a76 := Tryz.isAgg276
 z76 := Tryz.sizeOf276
 v76 := Tryz.zeroValue276
 t77 := Tryz.underlying139
 a77 := Tryz.isAgg139
 z77 := Tryz.sizeOf139
 v77 := Tryz.zeroValue139 }
end Go.Proofs
namespace Go.Proofs.YtkhlkohlccndgaaGreat
section
open Go.RowKit Go.Shelf Go.Sort

instance : Inhabited Sx.Tn := ⟨Sx.ago⟩
def CG (x y : Sx.Tn) : Int := H9 x.stands y.stands
theorem ltT (x y : Sx.Tn) : ltOf CG x y = decide (x.stands < y.stands) := by
 unfold ltOf CG H9
 by_cases h1 : x.stands < y.stands
 ·simp [h1]
 ·by_cases h2 : y.stands < x.stands <;> simp [h1, h2]
theorem swoT : SWO (ltOf CG) where
 irrefl x := by rw [ltT]; simp
 trans x y z h1 h2 := by rw [ltT] at *; simp at *; omega
 ntrans x y z h1 h2 := by rw [ltT] at *; simp at *; omega
theorem Bh (s t : Sx.Tn) (w : World) : Calls Tryz.prog 125 #[wG s, wG t] w fun e w' => e = .returned (.int .i64 (CG s t)) ∧ ∃ q os', w' = grow (w.drewN q) os' := by
 go_enter Tryz.func125, Tryz.ntmps125
 go_wp2_with (go_at_call 126; refine (Am _ _ _).mono ?_; rintro e w1 ⟨rfl, rfl⟩)
 go_ret
 exact ⟨rfl, 0, _, by rw [alloc_eq_grow, alloc_eq_grow, grow_grow]; rfl⟩
theorem Ia (blk off size : Nat) (w : World) : CmpLays Tryz.prog 125 #[] cZ 4 CG blk off size w := fun _ _ _ _ x y => Bh x y _
theorem tV {w : World} {g n : Nat} {os : Array Obj} (d : Array Sx.Tn) : w.grownBy (sortWorldK cZ 4 w g 0 n d os) (some g) := by
 refine ⟨rfl, rfl, rfl, by simp [sortWorldK, putRowK], fun k hk hne => ?_⟩
 unfold sortWorldK putRowK
 rw [heap_grow_old _ _ (by simpa using hk)]
 have : g ≠ k := fun e => hne (by rw [e])
 simp [putRow, mapBlock, Sort.ahead, Array.getElem?_modify, this]
theorem Lg {w : World} {g : Nat} {cur : Array Value} {e : TypeId} {ts : List Sx.Tn} (hb : w.heap[g]? = some (.cells cur e (0, 0))) (ht : cur.toList.take (ts.length * 4) = ts.flatMap cZ) : HoldsK cZ 4 w g 0 ts.toArray := by
 intro j hj
 rw [size_flatK] at hj
 have hj' : j < ts.length * 4 := by simpa using hj
 refine ⟨?_, by simp [World.frozen?, hb]⟩
 rw [get_flatK _ _ _ _ hj]
 have hi : j / 4 < ts.length := by omega
 have hx : ts[j / 4]? = some ts[j / 4] := q4G hi
 have hc : (cZ ts[j / 4])[j % 4]? = some ((cZ ts[j / 4])[j % 4]'(by show j % 4 < 4; omega)) := q4G _
 have q := flat_get cZ (z := 4) (fun _ => rfl) ts (j / 4) _ hx (j % 4) _ hc
 rw [show j / 4 * 4 + j % 4 = j by omega] at q
 have h1 : (cur.toList.take (ts.length * 4))[j]? = (ts.flatMap cZ)[j]? := by rw [ht]
 rw [List.getElem?_take_of_lt hj', q] at h1
 simp only [World.cell?, hb, Nat.zero_add]
 simp only [Option.isSome_none, Bool.false_eq_true, if_false]
 rw [← Array.getElem?_toList, h1]
 simp [hi]
 rw [hc]; rfl
theorem Gx {w : World} {g n cap : Nat} {d : Array Sx.Tn} (hH : HoldsK cZ 4 w g 0 d) (hg : g < w.heap.size) (hn : d.size = n) : jJ w (.slice (some ⟨g, 0, none⟩) n cap) d.toList := by
 refine ⟨some ⟨g, 0, none⟩, cap, by simp [hn], fun _ => ⟨g, 0, rfl, hg, fun i x hx k u hu => ?_⟩⟩
 have hi : i < d.size := by have := (q4L.1 hx).1; simpa using this
 have hk : k < 4 := (q4L.1 hu).1
 have q := (HoldsK.cell hH hi hk).1
 have ex : d[i]! = x := by
  rw [getElem!_pos d i hi]
  have := (q4L.1 hx).2
  simpa using this
 have eu : (cZ x)[k]! = u := by
  rw [getElem!_pos _ k (by show k < 4; exact hk)]
  exact (q4L.1 hu).2
 rw [ex, eu] at q
 exact q
def nR (ts o : List Sx.Tn) : Prop := o.Perm ts ∧ Sx.je o
theorem Bi : nR [] [] := ⟨.refl _, by simp [Sx.je]⟩
theorem Dw {ts : List Sx.Tn} {d : Array Sx.Tn} (hp : PermIn 0 ts.toArray.size ts.toArray d) (hs : SortedIn (ltOf CG) 0 ts.toArray.size d) : nR ts d.toList := by
 obtain ⟨h1, _, h3⟩ := hp
 refine ⟨?_, ?_⟩
 ·have e1 : d.extract 0 ts.toArray.size = d := by rw [← h1]; simp
  have e2 : ts.toArray.extract 0 ts.toArray.size = ts.toArray := by simp
  rw [e1, e2] at h3
  simpa using h3
 ·refine List.pairwise_iff_getElem.2 fun i j hi hj hij => ?_
  have hj' : j < d.size := by simpa using hj
  have q := hs i j (Nat.zero_le _) hij (by rw [← h1]; exact hj')
  rw [ltT, getElem!_pos d j hj', getElem!_pos d i (by omega)] at q
  simp at q
  simpa using q
theorem xm (ts : List Sx.Tn) (v : Value) (B : Nat) (w : World) (h : w.ownsRow B 120 4 v ts.length (ts.flatMap cZ)) (hl : ts.length ≤ 10000) :
  Calls Tryz.prog 173 #[v, .func (.func 125) #[] #[]] w fun e w' => e = .returned (.tuple #[]) ∧ (∃ o, nR ts o ∧ jJ w' v o) ∧ ∃ r, w.grownBy w' r ∧ ∀ k, r = some k → B ≤ k := by
 rcases h.2 with ⟨rfl, h0⟩ | ⟨g, cap, cur, rfl, hB, hg, h1, h2, h3, h4⟩
 ·have e : ts = [] := List.length_eq_zero_iff.1 h0
  subst e
  have hcon := AnyF.slices_SortFunc_none Tryz.qy none 0 (.func (.func 125) #[] #[]) w
  change Calls Tryz.prog 173 _ _ _ at hcon
  refine hcon.mono ?_
  rintro e w' ⟨rfl, rfl⟩
  exact ⟨rfl, ⟨[], Bi, Ji⟩, none, ⟨rfl, rfl, rfl, Nat.le_refl _, fun _ _ _ => rfl⟩, fun k e => by cases e⟩
 ·have hgl : g < w.heap.size := (q4A.1 hg).1
  have hH := Lg hg h4
  have eg : ∀ args w, (callFunc 125 args).run Tryz.prog w = .ok (.enter 125 args) w := enters_of Tryz.func125 (by kernel_rfl) rfl
  have hcon := AnyQ.slices_SortFunc Tryz.qy 4 Tryz.isAgg120 Tryz.sizeOf120 cZ (fun _ => rfl) Ck CG swoT 125 #[] g 0 cap ts.toArray w eg (Ia g 0 _ w) hH hgl (by simp; omega)
  change Calls Tryz.prog 173 _ _ _ at hcon
  refine hcon.mono ?_
  rintro e w' ⟨rfl, d', n, os, hp, hs, rfl⟩
  have hH' := holdsK_sortWorldK_c cZ 4 w g 0 ts.toArray d' n os hH hgl hp.1
  refine ⟨rfl, ⟨d'.toList, Dw hp hs, Gx hH' (q4N hgl (size_sortWorldK_c cZ 4 w g 0 n d' os)) (by rw [hp.1]; simp)⟩, some g, tV d', fun k e => by cases e; exact hB⟩
theorem AR (Bl Bn : Nat) (rs : List Sx.Rl) (name : Tx.Bs) (ra : Option Addr) (rcap : Nat) (w : World) (h : bY w (.slice ra rs.length rcap) rs) (hok : ∀ r ∈ rs, Sx.jw r) (hrs : rs.length ≤ 40)
  (cl : w.cell? ⟨Bl, 0, none⟩ = some (.slice ra rs.length rcap)) (cn : w.cell? ⟨Bn, 0, none⟩ = some (ag name)) (hBl : Bl < w.heap.size) (hBn : Bn < w.heap.size) :
  Calls Tryz.prog 124 #[.func (.func 127) #[] #[.pointer (some ⟨Bl, 0, none⟩), .pointer (some ⟨Bn, 0, none⟩)], .func (.func 125) #[] #[]] w
   fun e w' => ∃ v o, e = .returned v ∧ nR (Sx.turnsOf rs name) o ∧ jJ w' v o ∧ Below w.heap.size w w' := by
 have HF := hid (rR (name := name) hok hrs)
 have C := hid (Al Bl Bn rs name ra rcap w h hok hrs cl cn hBl hBn HF.out)
 clear h hok cl cn
 go_enter Tryz.func124, Tryz.ntmps124
 go_wp2_with fail
 refine C.out.mono ?_
 rintro e w1 ⟨v, rfl, hown, hb⟩
 have C2 := hid (xm _ v w.heap.size w1 hown HF.out)
 have B1 := hid hb
 obtain ⟨sa, sc, rfl⟩ := aQ hown
 clear hown hb
 go_wp2_with fail
 refine C2.out.mono ?_
 rintro e w2 ⟨rfl, ⟨o, ho, hrd⟩, r, hg, hr⟩
 have B2 := B1.out.grown hg B1.out.size hr
 have HO := hid ho
 have HRD := hid hrd
 have HB2 := hid B2
 clear ho hrd hg hr B2
 go_wp2
 go_ret
 exact ⟨_, o, rfl, HO.out, HRD.out, HB2.out⟩
theorem qG (Bl Bn : Nat) (rs : List Sx.Rl) (name : Tx.Bs) (ra : Option Addr) (rcap : Nat) (w : World) (h : bY w (.slice ra rs.length rcap) rs) (hok : ∀ r ∈ rs, Sx.jw r) (hrs : rs.length ≤ 40)
  (cl : w.cell? ⟨Bl, 0, none⟩ = some (.slice ra rs.length rcap)) (cn : w.cell? ⟨Bn, 0, none⟩ = some (ag name)) (hBl : Bl < w.heap.size) (hBn : Bn < w.heap.size) :
  Calls Tryz.prog 65 #[.func (.func 127) #[] #[.pointer (some ⟨Bl, 0, none⟩), .pointer (some ⟨Bn, 0, none⟩)]] w
   fun e w' => ∃ v o, e = .returned v ∧ nR (Sx.turnsOf rs name) o ∧ jJ w' v o ∧ Below w.heap.size w w' := by
 have C := hid (AR Bl Bn rs name ra rcap w h hok hrs cl cn hBl hBn)
 clear h hok cl cn
 go_enter Tryz.func65, Tryz.ntmps65
 go_wp2_with fail
 refine C.out.mono ?_
 rintro e w1 ⟨v, o, rfl, ho, hrd, hb⟩
 obtain ⟨sa, sc, rfl⟩ := bP hrd
 have HO := hid ho
 have HRD := hid hrd
 have HB := hid hb
 clear ho hrd hb
 go_wp2
 go_ret
 exact ⟨_, o, rfl, HO.out, HRD.out, HB.out⟩
end
namespace Sx

theorem src_ok {rs : List Rl} (h : fB ⟨rs, [], []⟩ = 0) : rs.length ≤ 40 ∧ ∀ r ∈ rs, jw r := by
 by_cases h40 : rs.length ≤ 40
 ·refine ⟨h40, fun r hr => EY (ji dI ?_ r hr)⟩
  have hm : eH (⟨rs, [], []⟩ : Sr) = false := by simp [eH]; omega
  rw [ul hm] at h
  unfold orE at h
  split at h
  ·assumption
  ·rename_i q; simpa using q
 ·rw [kD (by simp [eH]; omega)] at h
  omega
structure JU (rs : List Rl) (name : Tx.Bs) (shift : Int) : Prop where
 src : fB ⟨rs, [], []⟩ = 0
 s1 : -64800 ≤ shift
 s2 : shift ≤ 64800
 some : turnsOf rs name ≠ []
 apart_ : apart (jy (turnsOf rs name)) = true
 few : (turnsOf rs name).length ≤ 1000
 is : times rs name shift = gM shift 0 (jy (turnsOf rs name))
theorem qO {rs : List Rl} {name : Tx.Bs} {shift : Int} (h : bM rs name shift = 0) : JU rs name shift := by
 have hi : times rs name shift = gM shift 0 (jy (turnsOf rs name)) := by unfold times; rw [if_pos h]
 unfold bM at h
 split at h
 ·rename_i q; exact absurd h q
 rename_i q1
 split at h
 ·omega
 rename_i q2
 split at h
 ·omega
 rename_i q3
 split at h
 ·omega
 rename_i q4
 split at h
 ·omega
 rename_i q5
 simp [inB] at q2
 exact ⟨by simpa using q1, by omega, by omega, by simpa using q3, by simpa using q4, by omega, hi⟩
theorem JE {rs : List Rl} {name : Tx.Bs} {shift : Int} (h : bM rs name shift ≠ 0) : times rs name shift = [] := by unfold times; rw [if_neg h]
theorem wH {rs : List Rl} {name : Tx.Bs} (h : ∀ r ∈ rs, jw r) : ∀ t ∈ turnsOf rs name, -1000000000000 ≤ t.stands ∧ t.stands ≤ 1000000000000 := by
 intro t ht
 simp only [turnsOf, List.mem_flatMap, List.mem_filter, mr, List.mem_map, List.mem_range] at ht
 obtain ⟨r, ⟨hr, _⟩, k, hk, rfl⟩ := ht
 have ok := h r hr
 have h1 := ok.frm
 have h2 := ok.le
 have h3 := ok.to
 have h4 := ok.at_
 simp only [many] at hk
 have b := (EQ ok (y := r.frm + (k : Int)) (by omega) (by omega)).2
 simp only [mo]
 omega
end Sx
section
open Go.RowKit Go.Shelf

namespace Sx
def yC (shift : Int) (x : Tn × Tn) : Tm := rO shift x.1.save x.2
theorem tK (shift : Int) : ∀ (l : List Tn) (p : Tn), gM shift p.save l = (cu p l).map (yC shift)
 | [], _ => rfl
 | t :: r, p => by simp only [gM, cu, List.map_cons, tK shift r t]; rfl
end Sx
theorem yF {rs : List Sx.Rl} {name : Tx.Bs} {shift : Int} {o : List Sx.Tn} (hs : Sx.fB ⟨rs, [], []⟩ = 0) (h1 : -64800 ≤ shift) (h2 : shift ≤ 64800) (ho : nR (Sx.turnsOf rs name) o) :
  jd o = Sx.bM rs name shift ∧ (jd o = 0 → Sx.times rs name shift = (Sx.bQ o).map (Sx.yC shift)) := by
 have ok := (Sx.src_ok hs).2
 obtain ⟨hp, hso⟩ := ho
 have hlen := hp.length_eq
 obtain ⟨a1, a2⟩ := Sx.ordered hp hso
 have hbd : ∀ t ∈ o, -1000000000000 ≤ t.stands := fun t ht => (Sx.wH ok t (hp.mem_iff.1 ht)).1
 have hcl := Sx.Ak hbd
 have hB : Sx.inB shift (-64800) 64800 = true := by simp [Sx.inB]; omega
 have key : jd o = Sx.bM rs name shift := by
  have e2 : Sx.bM rs name shift = if (Sx.turnsOf rs name).isEmpty = true then 5 else if Sx.apart (Sx.jy (Sx.turnsOf rs name)) = false then 4 else if 1000 < (Sx.turnsOf rs name).length then 2 else 0 := by
   unfold Sx.bM
   rw [if_neg (show ¬ Sx.fB ⟨rs, [], []⟩ ≠ 0 by simp [hs]), if_neg (show ¬ Sx.inB shift (-64800) 64800 = false by simp [hB])]
  have he : o.isEmpty = (Sx.turnsOf rs name).isEmpty := by
   cases q : (Sx.turnsOf rs name) <;> cases q' : o <;> simp [q, q'] at hlen ⊢
  rw [e2]
  unfold jd
  rw [hcl, a1, hlen, he]
  cases Sx.apart (Sx.jy (Sx.turnsOf rs name)) <;> simp
 refine ⟨key, fun h0 => ?_⟩
 have h0' := key.symm.trans h0
 have k := Sx.qO h0'
 rw [k.is]
 have e : o = Sx.jy (Sx.turnsOf rs name) := a2 (by rw [a1]; exact k.apart_)
 rw [← e]
 exact Sx.tK shift o Sx.ago
end
section
open Go.RowKit Go.Shelf
attribute [local go_sem] Oper.semAt_some

def pQ (w : World) (B : Nat) (v : Value) (l : List Sx.Tm) : Prop := w.ownsRow B 72 3 v l.length (l.flatMap jq)
def kV (rs : List Sx.Rl) (name : Tx.Bs) (shift : Int) (w : World) (e : Ending) (w' : World) : Prop :=
 ∃ v, e = .returned (.tuple #[v, .int .i64 (Sx.bM rs name shift)]) ∧ pQ w' w.heap.size v (Sx.times rs name shift) ∧ Below w.heap.size w w'
theorem pM {rs : List Sx.Rl} {name : Tx.Bs} {shift E : Int} {w w' : World} (hE : Sx.bM rs name shift = E) (h : E ≠ 0) (hb : Below w.heap.size w w') : kV rs name shift w (.returned (.tuple #[.slice none 0 0, .int .i64 E])) w' := by
 refine ⟨_, by rw [hE], ?_, hb⟩
 unfold pQ
 rw [Sx.JE (by rw [hE]; exact h)]
 exact World.ownsRow_nil _ _ _ _
theorem Tryz.IY : (Tryz.prog.info? 72).map (fun i => (i.zero, i.size, i.bytes)) = some (some (.agg #[.int .i64 0, .int .i64 0, .string ⟨#[]⟩]), 3, 32) := by kernel_rfl
theorem wD (x : Sx.Tm) : ∀ u ∈ jq x, u.oneCell' = true := by
 intro u hu; simp only [jq, List.mem_cons, List.not_mem_nil, or_false] at hu; rcases hu with rfl | rfl | rfl <;> rfl
theorem pK (w : World) (x : Sx.Tm) {e : TypeId} : ∀ (j : Nat) (u : Value), (jq x)[j]? = some u → (w.alloc (.cells #[.int .i64 x.at_, .int .i64 x.save, ag x.letter] e)).cell? ((⟨w.heap.size, 0, none⟩ : Addr).add j) = some u := ol w (jq x)

theorem Cj (rs : List Sx.Rl) (rv : Value) (name : Tx.Bs) (shift : Int) (w : World) (h : bY w rv rs) (hs : ∀ r ∈ rs, r.name.length ≤ maxLen ∧ r.letter.length ≤ maxLen) (hE : Sx.fB ⟨rs, [], []⟩ ≠ 0) :
  Calls Tryz.prog 28 #[rv, ag name, .int .i64 shift] w (kV rs name shift w) := by
 obtain ⟨ra, rcap, rfl⟩ := bP h
 have BV := hid ((q4B w.heap.size w).alloc (Nat.le_refl _) (.cells #[.int .i64 shift] 3))
 have C := hid (iw rs _ _ (au h BV.out) hs)
 have HT : Hid (Sx.bM rs name shift = Sx.fB ⟨rs, [], []⟩) := by show _ = _; unfold Sx.bM; rw [if_pos hE]
 obtain ⟨E, hEE⟩ : ∃ E, Sx.fB ⟨rs, [], []⟩ = E := ⟨_, rfl⟩
 rw [hEE] at hE C HT
 have hne : (E != 0) = true := by simp [hE]
 have HE := hid hE
 clear h hs hE hEE
 go_enter Tryz.func28, Tryz.ntmps28
 go_wp2_with fail
 refine C.out.mono ?_
 rintro e w1 ⟨rfl, hb⟩
 have B1 : Hid (Below w.heap.size w w1) := BV.out.trans (hb.mono BV.out.size)
 clear hb
 go_wp2
 go_ret2
 exact pM HT.out HE.out B1.out
theorem Ch (rs : List Sx.Rl) (rv : Value) (name : Tx.Bs) (shift : Int) (w : World) (h : bY w rv rs) (hs : ∀ r ∈ rs, r.name.length ≤ maxLen ∧ r.letter.length ≤ maxLen) (hE : Sx.fB ⟨rs, [], []⟩ = 0) (hsh : ¬ (-64800 ≤ shift ∧ shift ≤ 64800)) :
  Calls Tryz.prog 28 #[rv, ag name, .int .i64 shift] w (kV rs name shift w) := by
 obtain ⟨ra, rcap, rfl⟩ := bP h
 have BV := hid ((q4B w.heap.size w).alloc (Nat.le_refl _) (.cells #[.int .i64 shift] 3))
 have SV := hid (aD w [.int .i64 shift] 3)
 have C := hid (iw rs _ _ (au h BV.out) hs)
 have HT : Hid (Sx.bM rs name shift = 3) := by show _ = _; unfold Sx.bM; rw [if_neg (by simp [hE]), if_pos (by simp [Sx.inB]; omega)]
 rw [hE] at C
 have HS := hid hsh
 clear h hs hE hsh
 by_cases h1 : shift < -64800
 all_goals
  go_enter Tryz.func28, Tryz.ntmps28
  go_wp2_with fail
  refine C.out.mono ?_
  rintro e w1 ⟨rfl, hb⟩
  have B1 : Hid (Below w.heap.size w w1) := BV.out.trans (hb.mono BV.out.size)
  obtain ⟨s0, s1⟩ := aa (ai SV.out hb) 0 rfl
  have ss := (ai SV.out hb).1
  have h2 : ¬ shift < -64800 → 64800 < shift := fun q => by have := HS.out; omega
  clear hb
  try (have h2 := h2 h1)
  go_wp2
  go_ret2
  exact pM HT.out (by decide) B1.out
end
section
open Go.RowKit Go.Shelf
attribute [local go_sem] Oper.semAt_some

theorem Ci (rs : List Sx.Rl) (rv : Value) (name : Tx.Bs) (shift : Int) (w : World) (h : bY w rv rs) (hs : ∀ r ∈ rs, r.name.length ≤ maxLen ∧ r.letter.length ≤ maxLen) (hE : Sx.fB ⟨rs, [], []⟩ = 0) (s1 : -64800 ≤ shift) (s2 : shift ≤ 64800) (hT : Sx.bM rs name shift ≠ 0) :
  Calls Tryz.prog 28 #[rv, ag name, .int .i64 shift] w (kV rs name shift w) := by
 obtain ⟨ra, rcap, rfl⟩ := bP h
 have BV := hid ((q4B w.heap.size w).alloc (Nat.le_refl _) (.cells #[.int .i64 shift] 3))
 have SV := hid (aD w [.int .i64 shift] 3)
 have C := hid (iw rs _ _ (au h BV.out) hs)
 have HOK := hid (Sx.src_ok hE)
 rw [hE] at C
 have H := hid h
 have HT := hid hT
 have HE := hid hE
 have n1 : ¬ shift < -64800 := by omega
 have n2 : ¬ 64800 < shift := by omega
 have HS : Hid (-64800 ≤ shift ∧ shift ≤ 64800) := ⟨s1, s2⟩
 clear h hs hE hT s1 s2
 go_enter Tryz.func28, Tryz.ntmps28
 go_wp2_with fail
 refine C.out.mono ?_
 rintro e w1 ⟨rfl, hb⟩
 have B1 : Hid (Below w.heap.size w w1) := BV.out.trans (hb.mono BV.out.size)
 have X1 := hid (ai SV.out hb)
 obtain ⟨t0, t1⟩ := aa X1.out 0 rfl
 have ss := X1.out.1
 clear hb BV SV C
 go_wp2_with fail
 refine (yG _ _ _ ra rs.length rcap rfl).mono ?_
 rintro e w2 ⟨rfl, hw2⟩
 have q1 : w2.cell? ⟨w1.heap.size, 0, none⟩ = some (.slice ra rs.length rcap) := by
  have := aa (aM (aD w1 [.slice ra rs.length rcap] 22) (.cells #[ag name] 9)) 0 rfl
  rw [hw2]; exact this.1
 have q2 : w2.cell? ⟨w1.heap.size + 1, 0, none⟩ = some (ag name) := by
  have := aa (aD (w1.alloc (.cells #[.slice ra rs.length rcap] 22)) [ag name] 9) 0 rfl
  rw [World.size_alloc] at this
  rw [hw2]; exact this.1
 have z2 : w2.heap.size = w1.heap.size + 2 := by rw [hw2]; simp
 have B2 : Hid (Below w.heap.size w w2) := by
  show Below _ _ _
  rw [hw2]; exact (B1.out.alloc B1.out.size _).alloc (by have := B1.out.size; simp; omega) _
 have C2 := hid (qG w1.heap.size (w1.heap.size + 1) rs name ra rcap w2 (au H.out B2.out) HOK.out.2 HOK.out.1 q1 q2 (by omega) (by omega))
 have S2 : Hid (w.heap.size < w2.heap.size) := by show _ < _; have := ss; omega
 clear hw2 q1 q2 z2 t0 t1 ss X1
 go_wp2_with fail
 refine C2.out.mono ?_
 rintro e w3 ⟨v, o, rfl, hord, hrd, hb⟩
 have B3 : Hid (Below w.heap.size w w3) := B2.out.trans (hb.mono B2.out.size)
 obtain ⟨K, hK⟩ := Nat.exists_eq_add_of_le (Nat.zero_le 0)
 have KT := hid (yF HE.out HS.out.1 HS.out.2 hord)
 have C3 := hid (mX o v w3 hrd (by have := hord.1.length_eq; have := rR (name := name) HOK.out.2 HOK.out.1; omega) (fun t ht => Sx.wH HOK.out.2 t (hord.1.mem_iff.1 ht)))
 have KE : Hid (Sx.bM rs name shift = jd o) := KT.out.1.symm
 obtain ⟨E, hEE⟩ : ∃ E, jd o = E := ⟨_, rfl⟩
 rw [hEE] at C3 KE
 have hne0 : E ≠ 0 := by rw [← KE.out]; exact HT.out
 have hne : (E != 0) = true := by simp [hne0]
 have HN := hid hne0
 obtain ⟨oa, oc, rfl⟩ := bP hrd
 clear hEE KT hord hrd hb C2 hK hne0
 go_wp2_with fail
 refine C3.out.mono ?_
 rintro e w4 ⟨rfl, hb⟩
 have B4 : Hid (Below w.heap.size w w4) := B3.out.trans (hb.mono B3.out.size)
 clear hb
 go_wp2
 go_ret2
 exact pM KE.out HN.out B4.out
end
section
open Go.RowKit Go.Shelf
attribute [local go_sem] Oper.semAt_some

theorem Je {β : Type} {B n0 Bs g L size : Nat} {t e : TypeId} (k : β → Nat) (xs : β → List Value) (hBs : Bs < B) (hg : g < B) :
  bX B (fun (s : β) W => Boxed W Bs t (.slice (some ⟨g, 0, none⟩) (k s) L) ∧ W.ownsRow n0 e size (.slice (some ⟨g, 0, none⟩) (k s) L) (k s) (xs s)) :=
 fun s W W' row hs hgr hr => ⟨hs.1.kept hgr (fun q => by have := (hr Bs q.symm).1; omega), hs.2.kept hgr (.inr fun q => by have := (hr g q.symm).1; omega)⟩
def rY (N Bx : Nat) (shift : Int) (p t : Sx.Tn) (w : World) : Prop := w.cell? ⟨N, 0, none⟩ = some (.int .i64 shift) ∧ w.cell? ⟨Bx, 0, none⟩ = some (.int .i64 p.stands) ∧ w.cell? ⟨Bx, 1, none⟩ = some (.int .i64 p.clock) ∧ w.cell? ⟨Bx, 2, none⟩ = some (.int .i64 p.save) ∧ w.cell? ⟨Bx, 3, none⟩ = some (ag p.letter) ∧ w.cell? ⟨Bx, 4, none⟩ = some (.int .i64 t.stands) ∧ w.cell? ⟨Bx, 5, none⟩ = some (.int .i64 t.clock) ∧ w.cell? ⟨Bx, 6, none⟩ = some (.int .i64 t.save) ∧ w.cell? ⟨Bx, 7, none⟩ = some (ag t.letter)
theorem kg {N Bx : Nat} {shift : Int} {p t : Sx.Tn} {A B : World} (h : rY N Bx shift p t A) (hb : Below A.heap.size A B) (hN : N < A.heap.size) (hx : Bx < A.heap.size) : rY N Bx shift p t B := by
 obtain ⟨a, b0, b1, b2, b3, b4, b5, b6, b7⟩ := h
 have e := fun k => hb.cell (p := ⟨Bx, k, none⟩) hx
 exact ⟨(hb.cell (p := ⟨N, 0, none⟩) hN).trans a, (e 0).trans b0, (e 1).trans b1, (e 2).trans b2, (e 3).trans b3, (e 4).trans b4, (e 5).trans b5, (e 6).trans b6, (e 7).trans b7⟩
theorem pF {N Bx g : Nat} {shift : Int} {p t : Sx.Tn} {A B : World} (h : rY N Bx shift p t A) (hb : A.grownBy B (some g)) (hN : N < A.heap.size) (hx : Bx < A.heap.size) (n1 : N ≠ g) (n2 : Bx ≠ g) : rY N Bx shift p t B := by
 obtain ⟨a, b0, b1, b2, b3, b4, b5, b6, b7⟩ := h
 have e : ∀ k, B.cell? ⟨Bx, k, none⟩ = A.cell? ⟨Bx, k, none⟩ := fun k => World.cell?_of_block (w := A) (hb.block _ hx (by intro q; exact n2 (by injection q)))
 have e' : B.cell? ⟨N, 0, none⟩ = A.cell? ⟨N, 0, none⟩ := World.cell?_of_block (w := A) (hb.block _ hN (by intro q; exact n1 (by injection q)))
 exact ⟨e'.trans a, (e 0).trans b0, (e 1).trans b1, (e 2).trans b2, (e 3).trans b3, (e 4).trans b4, (e 5).trans b5, (e 6).trans b6, (e 7).trans b7⟩
theorem vw {N Bx g : Nat} {shift : Int} {p t : Sx.Tn} {A : World} {v : Value} (h : rY N Bx shift p t A) (n1 : N ≠ g) (n2 : Bx ≠ g) : rY N Bx shift p t (A.setCell ⟨g, 0, none⟩ v) := by
 obtain ⟨a, b0, b1, b2, b3, b4, b5, b6, b7⟩ := h
 have e : ∀ k, (A.setCell ⟨g, 0, none⟩ v).cell? ⟨Bx, k, none⟩ = A.cell? ⟨Bx, k, none⟩ := fun k => World.cell?_of_block (w := A) (Below.heap_setCell _ _ _ _ n2)
 have e' : (A.setCell ⟨g, 0, none⟩ v).cell? ⟨N, 0, none⟩ = A.cell? ⟨N, 0, none⟩ := World.cell?_of_block (w := A) (Below.heap_setCell _ _ _ _ n1)
 exact ⟨e'.trans a, (e 0).trans b0, (e 1).trans b1, (e 2).trans b2, (e 3).trans b3, (e 4).trans b4, (e 5).trans b5, (e 6).trans b6, (e 7).trans b7⟩
theorem yN {G Bs N L k : Nat} {tT T : TypeId} {w4 W w7 w9 : World} {tmp o : Obj} {xs news : List Value} (ib : Boxed W Bs tT (.slice (some ⟨G, 0, none⟩) k L)) (ir : W.ownsRow G T 3 (.slice (some ⟨G, 0, none⟩) k L) k xs)
  (iN : W.heap[N]? = some o) (iB : Below G w4 W) (BB : Below W.heap.size W w7) (hGB : G < Bs) (hNG : N < G) (hte : tT ≠ T)
  (hown9 : w9.ownsRow G T 3 (.slice (some ⟨G, 0, none⟩) (k + 1) L) (k + 1) (xs ++ news)) (hgrow9 : (w7.alloc tmp).grownBy w9 (some G)) :
  Boxed w9 Bs tT (.slice (some ⟨G, 0, none⟩) k L) ∧ KeepsOthers W (w9.setCell ⟨Bs, 0, none⟩ (.slice (some ⟨G, 0, none⟩) (k + 1) L)) ∧ Kp G T Bs W (w9.setCell ⟨Bs, 0, none⟩ (.slice (some ⟨G, 0, none⟩) (k + 1) L)) ∧
  Boxed (w9.setCell ⟨Bs, 0, none⟩ (.slice (some ⟨G, 0, none⟩) (k + 1) L)) Bs tT (.slice (some ⟨G, 0, none⟩) (k + 1) L) ∧ (w9.setCell ⟨Bs, 0, none⟩ (.slice (some ⟨G, 0, none⟩) (k + 1) L)).ownsRow G T 3 (.slice (some ⟨G, 0, none⟩) (k + 1) L) (k + 1) (xs ++ news) ∧
  (w9.setCell ⟨Bs, 0, none⟩ (.slice (some ⟨G, 0, none⟩) (k + 1) L)).heap[N]? = some o ∧ Below G w4 (w9.setCell ⟨Bs, 0, none⟩ (.slice (some ⟨G, 0, none⟩) (k + 1) L)) := by
 have lb := ib.lt
 have ib7 : Boxed w7 Bs tT (.slice (some ⟨G, 0, none⟩) k L) := (BB.block _ lb).trans ib
 have r7 := aP ir BB
 obtain ⟨q1, q2, q3, q4, q5⟩ := ib7.appended hte r7 (by have := BB.size; omega) (Nat.le_of_lt hGB) hown9 hgrow9
 have lN := (q4A.1 iN).1
 have n7 := (BB.block _ lN).trans iN
 have bw : Below G W (w9.setCell ⟨Bs, 0, none⟩ (.slice (some ⟨G, 0, none⟩) (k + 1) L)) := (BB.mono (by omega)).trans q5
 exact ⟨q1, (cO BB).trans q4, ⟨bw, zm (ug BB (Nat.le_refl _)).2 (xY r7 hgrow9)⟩, q2, q3, (q5.block _ hNG).trans n7, iB.trans bw⟩
theorem Ed (rs : List Sx.Rl) (rv : Value) (name : Tx.Bs) (shift : Int) (w : World) (h : bY w rv rs) (hs : ∀ r ∈ rs, r.name.length ≤ maxLen ∧ r.letter.length ≤ maxLen) (hT : Sx.bM rs name shift = 0) :
  Calls Tryz.prog 28 #[rv, ag name, .int .i64 shift] w (kV rs name shift w) := by
 obtain ⟨ra, rcap, rfl⟩ := bP h
 have HO := hid (Sx.qO hT)
 have BV := hid ((q4B w.heap.size w).alloc (Nat.le_refl _) (.cells #[.int .i64 shift] 3))
 have SV := hid (World.alloc_heap_new w (.cells #[.int .i64 shift] 3))
 have C := hid (iw rs _ _ (au h BV.out) hs)
 have HOK := hid (Sx.src_ok HO.out.src)
 have HE := hid HO.out.src
 rw [HE.out] at C
 have H := hid h
 have n1 : ¬ shift < -64800 := by have := HO.out.s1; omega
 have n2 : ¬ 64800 < shift := by have := HO.out.s2; omega
 have HT := hid hT
 clear h hs hT
 refine (callsIn_wide (n := 4)).1 ?_
 refine callsIn_of_wp_marks Tryz.func28 rfl trivial ?_ rfl
 simp only [Tryz.ntmps28, List.size_toArray, List.length_cons, List.length_nil, Nat.reduceAdd, Nat.reduceSub, Array.replicate_succ, Array.replicate_zero, List.push_toArray, List.append_toArray, List.nil_append, List.cons_append]
 gi_wp2_with fail
 refine ⟨trivial, (callsIn_wide.2 C.out).mono ?_⟩
 rintro e w1 ⟨rfl, hb⟩
 have S1 := (hb.block _ (q4A.1 SV.out).1).trans SV.out
 obtain ⟨t0, t1⟩ := aa (aj (vs := [.int .i64 shift]) S1) 0 rfl
 have B1 : Hid (Below w.heap.size w w1) := BV.out.trans (hb.mono BV.out.size)
 have ss := (q4A.1 S1).1
 have HS1 := hid S1
 have L1 : Hid (w.heap.size < w1.heap.size) := ss
 clear hb S1 C SV BV
 gi_wp2_with fail
 refine ⟨trivial, (callsIn_wide.2 (yG _ _ _ ra rs.length rcap rfl)).mono ?_⟩
 rintro e w2 ⟨rfl, hw2⟩
 have q1 : w2.cell? ⟨w1.heap.size, 0, none⟩ = some (.slice ra rs.length rcap) := by
  have := aa (aM (aD w1 [.slice ra rs.length rcap] 22) (.cells #[ag name] 9)) 0 rfl
  rw [hw2]; exact this.1
 have q2 : w2.cell? ⟨w1.heap.size + 1, 0, none⟩ = some (ag name) := by
  have := aa (aD (w1.alloc (.cells #[.slice ra rs.length rcap] 22)) [ag name] 9) 0 rfl
  rw [World.size_alloc] at this
  rw [hw2]; exact this.1
 have z2 : w2.heap.size = w1.heap.size + 2 := by rw [hw2]; simp
 have B12 : Below w1.heap.size w1 w2 := by
  rw [hw2]; exact ((q4B _ w1).alloc (Nat.le_refl _) _).alloc (by simp) _
 have B2 : Hid (Below w.heap.size w w2) := B1.out.trans (B12.mono B1.out.size)
 have S2 := hid ((B12.block _ L1.out).trans HS1.out)
 have L2 : Hid (w.heap.size < w2.heap.size) := q4N L1.out B12.size
 have C2 := hid (qG w1.heap.size (w1.heap.size + 1) rs name ra rcap w2 (au H.out B2.out) HOK.out.2 HOK.out.1 q1 q2 (by omega) (by omega))
 clear hw2 q1 q2 z2 t0 t1 ss HS1 B12 B1 L1
 gi_wp2_with fail
 refine ⟨trivial, (callsIn_wide.2 C2.out).mono ?_⟩
 rintro e w3 ⟨v, o, rfl, hord, hrd, hb⟩
 have B3 : Hid (Below w.heap.size w w3) := B2.out.trans (hb.mono B2.out.size)
 have S3 := hid ((hb.block _ L2.out).trans S2.out)
 have L3 : Hid (w.heap.size < w3.heap.size) := q4N L2.out hb.size
 have KT := hid (yF HE.out HO.out.s1 HO.out.s2 hord)
 have HB := hid (fun t ht => Sx.wH HOK.out.2 t (hord.1.mem_iff.1 ht))
 have HL : Hid (o.length ≤ 10000) := by show _ ≤ _; have := hord.1.length_eq; have := rR (name := name) HOK.out.2 HOK.out.1; omega
 have HSV : Hid (∀ t ∈ o, 0 ≤ t.save ∧ t.save ≤ 10800) := fun t ht => Sx.Em (fun r hr => (HOK.out.2 r hr).save) t (hord.1.mem_iff.1 ht)
 have C3 := hid (mX o v w3 hrd HL.out HB.out)
 have hE0 : jd o = 0 := KT.out.1.trans HT.out
 have KX : Hid (Sx.times rs name shift = (Sx.bQ o).map (Sx.yC shift)) := KT.out.2 hE0
 rw [hE0] at C3
 obtain ⟨oa, oc, rfl⟩ := bP hrd
 have RD3 := hid hrd
 clear hE0 KT hord hrd hb C2 S2 L2 B2
 gi_wp2_with fail
 refine ⟨trivial, (callsIn_wide.2 C3.out).mono ?_⟩
 rintro e w4 ⟨rfl, hb⟩
 have B4 : Hid (Below w.heap.size w w4) := B3.out.trans (hb.mono B3.out.size)
 have S4 := hid ((hb.block _ L3.out).trans S3.out)
 have L4 : Hid (w.heap.size < w4.heap.size) := q4N L3.out hb.size
 have RD4 := hid (au RD3.out hb)
 clear hb C3 RD3 S3 L3 B3
 obtain ⟨i0, hi, hz0, hz1, hz2⟩ := info_parts Tryz.IY
 have hl := HL.out
 gi_wp2_with (gi_at_make; refine wpListIn_make_own _ rfl _ _ 68 rfl w4.heap.size 72 i0 (.agg #[.int .i64 0, .int .i64 0, .string ⟨#[]⟩]) 3 Tryz.underlying68 hi hz0 hz1 _ _ _ o.length rfl rfl rfl (by rw [hz2]; omega) (by unfold maxLen; omega) (Nat.le_refl _) ?_; intro w5 hown5 hgrow5)
 refine ⟨trivial, (callsIn_wide.2 (ow oa o.length oc _)).mono ?_⟩
 rintro e w6 ⟨rfl, rfl⟩
 obtain ⟨G, hG⟩ : ∃ G, w4.heap.size = G := ⟨_, rfl⟩
 obtain ⟨Bs, hBs⟩ : ∃ Bs, w5.heap.size = Bs := ⟨_, rfl⟩
 obtain ⟨N, hN⟩ : ∃ N, w.heap.size = N := ⟨_, rfl⟩
 obtain ⟨Nt, hNt⟩ : ∃ Nt, w1.heap.size = Nt := ⟨_, rfl⟩
 have hGB : G < Bs := by
  rcases hown5.2 with ⟨h0, _⟩ | ⟨g, cap, cur, h0, _, hg, _⟩
  ·cases h0
  ·simp only [Value.slice.injEq, Option.some.injEq, Addr.mk.injEq] at h0
   rw [← h0.1.1] at hg
   have := (q4A.1 hg).1
   omega
 have hNG : N < G := by rw [← hN, ← hG]; exact L4.out
 have B5 : Below G w4 w5 := (q4B G w4).grown hgrow5 (by omega) (fun k e => by cases e)
 have S5 := (B5.block N hNG).trans (hN ▸ S4.out)
 rw [hG, hBs, hN, hNt]
 rw [show (w5.alloc (.cells #[.slice (some ⟨G, 0, none⟩) 0 o.length] 68)).heap.size = Bs + 1 by simp [hBs]]
 rw [hG] at hown5
 obtain ⟨V, hV⟩ : ∃ V, ((w5.alloc (.cells #[.slice (some ⟨G, 0, none⟩) 0 o.length] 68)).alloc (.cells #[.slice oa o.length oc] 110)) = V := ⟨_, rfl⟩
 rw [hV]
 have vS : V.heap.size = Bs + 2 := by rw [← hV]; simp [hBs]
 have vN : V.heap[N]? = some (.cells #[.int .i64 shift] 3) := by rw [← hV, Below.heap_alloc _ _ _ (by simp; omega), Below.heap_alloc _ _ _ (by omega)]; exact S5
 have vb : Boxed V Bs 68 (.slice (some ⟨G, 0, none⟩) 0 o.length) := by rw [← hV, ← hBs]; exact (Boxed.new w5 _ _).alloc _
 have vr : V.ownsRow G 72 3 (.slice (some ⟨G, 0, none⟩) 0 o.length) 0 [] := by rw [← hV]; exact (hown5.alloc _).alloc _
 have vo : V.cell? ⟨Bs + 1, 0, none⟩ = some (.slice oa o.length oc) := by
  have := aa (aD (w5.alloc (.cells #[.slice (some ⟨G, 0, none⟩) 0 o.length] 68)) [.slice oa o.length oc] 110) 0 rfl
  rw [World.size_alloc, hBs] at this
  rw [← hV]; exact this.1
 have vB : Below G w4 V := by rw [← hV]; exact (B5.alloc (by omega) _).alloc (by simp; omega) _
 have HGG := hid hG
 have HNN := hid hN
 clear hV hown5 hgrow5 S5 B5 hNt hBs S4 L4
 gi_wp2
 refine gP rfl (by omega) (gf := 131) (lb := #[.pointer (some ⟨Bs + 1, 0, none⟩)]) rfl trivial (enters_of Tryz.func131 (by kernel_rfl) rfl)
  (tH 3 (Bs + 1) Bs (by omega) o oa oc w4 V RD4.out HL.out vo (by omega) (by omega) (hG ▸ vB)) KH (KG (by omega)) (q4B _ _) (fun _ => rfl)
  (fun (pre : List (Sx.Tn × Sx.Tn)) W => (Boxed W Bs 68 (.slice (some ⟨G, 0, none⟩) pre.length o.length) ∧ W.ownsRow G 72 3 (.slice (some ⟨G, 0, none⟩) pre.length o.length) pre.length ((pre.map (Sx.yC shift)).flatMap jq)) ∧ W.heap[N]? = some (.cells #[.int .i64 shift] 3) ∧ Below G w4 W)
  (fun _ _ _ => False)
  (bX.and (Je (fun (pre : List (Sx.Tn × Sx.Tn)) => pre.length) (fun (pre : List (Sx.Tn × Sx.Tn)) => (pre.map (Sx.yC shift)).flatMap jq) (by omega) (by omega)) (bX.and (aV (by omega)) (eY (by omega) (by omega))))
  (fun _ _ _ _ _ hs _ _ => hs)
  ⟨⟨vb, vr⟩, vN, vB⟩
  (fun x a' W => ∃ Bx, Bs + 1 < Bx ∧ W.heap[Bx]? = some (.cells (jE x).toArray 122 (0, 0)) ∧ a' = { tmps := #[.slice ra rs.length rcap, ag name, .int .i64 shift, undef, undef, .pointer (some ⟨N, 0, none⟩), .slice none 0 0, .int .i64 0, .int .i64 0, .slice oa o.length oc, .int .i64 0, .pointer (some ⟨Bs, 0, none⟩), .pointer (some ⟨Bx, 0, none⟩), .slice ra rs.length rcap, .agg #[.slice ra rs.length rcap, .slice none 0 0, .slice none 0 0], .int .i64 0, .int .i64 0, .bool false, undef, .int .i64 shift, .bool (decide (shift < -64800)), .bool (decide (shift < -64800)), .int .i64 shift, .bool (decide (64800 < shift)), .bool (decide (shift < -64800) || decide (64800 < shift)), .slice ra rs.length rcap, ag name, .func (.func 127) #[] #[.pointer (some ⟨Nt, 0, none⟩), .pointer (some ⟨Nt + 1, 0, none⟩)], .slice oa o.length oc, .slice oa o.length oc, .int .i64 0, .int .i64 0, .bool false, undef, .slice oa o.length oc, .int .i64 ↑o.length, .slice (some ⟨G, 0, none⟩) 0 o.length, .slice oa o.length oc, .func (.func 131) #[] #[.pointer (some ⟨Bs + 1, 0, none⟩)], nJ x.1 x.2, undef, undef, undef, undef, undef, undef, undef], defers := [] })
  ?hAx ?assign ?body ?done ?stop
 case hAx =>
  rintro x a' _ X Y row ⟨Bx, q1, q2, q3⟩ hg hr
  refine ⟨Bx, q1, ?_, q3⟩
  rw [hg.block Bx (q4A.1 q2).1 (fun e => by obtain ⟨_, o, ho, hc⟩ := hr Bx e.symm; rw [q2] at ho; cases ho; simp [Obj.isCells] at hc)]
  exact q2
 case assign =>
  rintro l pre ⟨p, t⟩ W K ⟨⟨i0', i1⟩, iN, iB⟩ sz hK
  rw [vS] at sz
  have KB := hid ((q4B W.heap.size W).alloc (Nat.le_refl _) (.cells (jE (p, t)).toArray 122))
  have R := hid (hK { tmps := #[.slice ra rs.length rcap, ag name, .int .i64 shift, undef, undef, .pointer (some ⟨N, 0, none⟩), .slice none 0 0, .int .i64 0, .int .i64 0, .slice oa o.length oc, .int .i64 0, .pointer (some ⟨Bs, 0, none⟩), .pointer (some ⟨W.heap.size, 0, none⟩), .slice ra rs.length rcap, .agg #[.slice ra rs.length rcap, .slice none 0 0, .slice none 0 0], .int .i64 0, .int .i64 0, .bool false, undef, .int .i64 shift, .bool (decide (shift < -64800)), .bool (decide (shift < -64800)), .int .i64 shift, .bool (decide (64800 < shift)), .bool (decide (shift < -64800) || decide (64800 < shift)), .slice ra rs.length rcap, ag name, .func (.func 127) #[] #[.pointer (some ⟨Nt, 0, none⟩), .pointer (some ⟨Nt + 1, 0, none⟩)], .slice oa o.length oc, .slice oa o.length oc, .int .i64 0, .int .i64 0, .bool false, undef, .slice oa o.length oc, .int .i64 ↑o.length, .slice (some ⟨G, 0, none⟩) 0 o.length, .slice oa o.length oc, .func (.func 131) #[] #[.pointer (some ⟨Bs + 1, 0, none⟩)], nJ p t, undef, undef, undef, undef, undef, undef, undef], defers := [] } (W.alloc (.cells (jE (p, t)).toArray 122)) ((KeepsOthers.alloc _ _).from _) (ug KB.out (by omega))
   ⟨⟨i0'.alloc _, i1.alloc _⟩, (KB.out.block _ (q4A.1 iN).1).trans iN, iB.alloc (by omega) _⟩ ⟨W.heap.size, by omega, World.alloc_heap_new W _, rfl⟩)
  clear hK i0' i1 iN iB
  gi_wp2
  exact R.out
 case body =>
  rintro l pre ⟨p, t⟩ a' W hl ⟨r, hr⟩ ⟨⟨ib, ir⟩, iN, iB⟩ ⟨Bx, hBx, hX, rfl⟩ hpx sz
  have hm := rM o Sx.ago (p, t) (fI hpx)
  dsimp only at hm
  have hpl : pre.length + 1 ≤ o.length := by have := hpx.length_le; rw [List.length_append, Sx.bQ, Sx.kT] at this; simpa using this
  have hs1 : 0 ≤ p.save ∧ p.save ≤ 10800 := by
   rcases hm.1 with rfl | e
   ·simp [Sx.ago]
   ·exact HSV.out _ e
  have hb2 := HB.out _ hm.2
  have HC := hid (Cg p t shift W n1 n2 hs1.1 hs1.2 hb2.1 hb2.2)
  have HC2 := hid (Cg p t shift W.drew n1 n2 hs1.1 hs1.2 hb2.1 hb2.2)
  obtain ⟨⟨x0, _⟩, ⟨x1, _⟩, ⟨x2, _⟩, ⟨x3, _⟩, ⟨x4, _⟩, ⟨x5, _⟩, ⟨x6, _⟩, ⟨x7, _⟩, -⟩ := cp8 (aj hX)
  have sx := (q4A.1 hX).1
  have cN := (aa (aj (vs := [.int .i64 shift]) iN) 0 rfl).1
  have cb := ib.cell
  have lb := ib.lt
  have lN := (q4A.1 iN).1
  have IB := hid iB
  have IR := hid ir
  have IN := hid iN
  have IBX := hid ib
  clear hm hX iN ib ir iB hr
  dsimp only at x0 x1 x2 x3 x4 x5 x6 x7
  gi_wp2_with fail
  obtain ⟨T, hT⟩ : ∃ T, Sx.rO shift p.save t = T := ⟨_, rfl⟩
  rw [hT] at HC2
  have HTT : Hid (Sx.yC shift (p, t) = T) := hT
  clear hT HC
  have SS : Hid (rY N Bx shift p t W.drew) := ⟨cN, x0, x1, x2, x3, x4, x5, x6, x7⟩
  refine oU (S := fun w' => rY N Bx shift p t w') (by kernel_rfl) (by kernel_rfl) (fun ⟨_, _, q⟩ => q) SS.out (fun hHeld => ?_)
  refine tkH 1 ?vz1 rfl ?z1 ?_
  case z1 => (intro w hSw; obtain ⟨sN, s0, s1, s2, s3, s4, s5, s6, s7⟩ := hSw; go_simp; try with_reducible rfl)
  try simp only [Act.put, j]
  refine tkH 2 ?vz2 rfl ?z2 ?_
  case z2 => (intro w hSw; obtain ⟨sN, s0, s1, s2, s3, s4, s5, s6, s7⟩ := hSw; go_simp; try with_reducible rfl)
  try simp only [Act.put, j]
  refine wpAnyH_ready (rs := [0,3]) (by kernel_rfl) (by simp) ?_
  refine AllReadyH.cons rfl (fun K hK => ?_) ?_
  ·have cbd : W.drew.cell? ⟨Bs, 0, none⟩ = some (.slice (some ⟨G, 0, none⟩) pre.length o.length) := cb
   go_simp
   refine hK.out _ _ (by assumption) (fun hHeldB => ?_)
   clear hK K
   try simp only [Act.put, j]
   refine rdH 3 rfl fun K hK => ?_
   go_simp
   refine HC2.out.mono ?_
   rintro e w7 ⟨rfl, hb7⟩
   have BB : Hid (Below W.heap.size W w7) := (show Below W.heap.size W W.drew from ⟨rfl, rfl, rfl, Nat.le_refl _, fun _ _ => rfl⟩).trans hb7
   have ib7 : Boxed w7 Bs 68 (.slice (some ⟨G, 0, none⟩) pre.length o.length) := (BB.out.block _ lb).trans IBX.out
   have cb7 := ib7.cell
   have lb7 := ib7.lt
   have row7 := aP IR.out BB.out
   have S7 := kg SS.out hb7 lN sx
   have L7 : N < w7.heap.size ∧ Bx < w7.heap.size := ⟨q4N lN BB.out.size, q4N sx BB.out.size⟩
   refine hK.out _ _ S7 (fun hHeld2 => ?_)
   clear hK K
   try simp only [Act.put, j]
   refine rdH 4 rfl fun K hK => ?_
   go_simp
   have S8 := kg S7 ((q4B w7.heap.size w7).alloc (Nat.le_refl _) (.cells #[.int .i64 T.at_, .int .i64 T.save, ag T.letter] 72)) L7.1 L7.2
   have cb8 := (ib7.alloc (.cells #[.int .i64 T.at_, .int .i64 T.save, ag T.letter] 72)).cell
   refine hK.out _ _ S8 (fun hHeld3 => ?_)
   clear hK K
   try simp only [Act.put, j]
   refine rdH 5 rfl fun K hK => ?_
   refine jc rfl _ _ 68 rfl G 72 i0 3 Tryz.underlying68 hi hz1 G pre.length o.length _ rfl (row7.alloc _) ⟨w7.heap.size, 0, none⟩ 1 1 (jq T) rfl rfl (pK _ _) (wD _) hpl ?_
   intro w9 hown9 hgrow9
   obtain ⟨hv9, k9, kp9, b9, r9, n9, bl9⟩ := yN IBX.out IR.out IN.out IB.out BB.out hGB hNG (by decide) hown9 hgrow9
   have c9 := hv9.cell
   have f9 := hv9.frozen
   have l9 := hv9.lt
   have S9 := pF S8 hgrow9 (by simp; omega) (by simp; omega) (by omega) (by omega)
   refine hK.out _ _ S9 (fun hHeld4 => ?_)
   clear hK K
   try simp only [Act.put, j]
   refine rdH 6 rfl fun K hK => ?_
   go_simp
   refine hK.out _ _ (vw S9 (by omega) (by omega)) (fun hHeld5 => ?_)
   clear hK K
   try simp only [Act.put, j]
   refine wpAnyH_done (by kernel_rfl) ?_ _
   exact ⟨k9.from _, HGG.out.symm ▸ kp9, ⟨by simpa using b9, by simpa [HTT.out] using r9⟩, n9, bl9⟩
  refine AllReadyH.cons rfl (fun K hK => ?_) AllReadyH.nil
  go_simp
  refine HC2.out.mono ?_
  rintro e w7 ⟨rfl, hb7⟩
  have BB : Hid (Below W.heap.size W w7) := (show Below W.heap.size W W.drew from ⟨rfl, rfl, rfl, Nat.le_refl _, fun _ _ => rfl⟩).trans hb7
  have ib7 : Boxed w7 Bs 68 (.slice (some ⟨G, 0, none⟩) pre.length o.length) := (BB.out.block _ lb).trans IBX.out
  have cb7 := ib7.cell
  have lb7 := ib7.lt
  have row7 := aP IR.out BB.out
  have S7 := kg SS.out hb7 lN sx
  have L7 : N < w7.heap.size ∧ Bx < w7.heap.size := ⟨q4N lN BB.out.size, q4N sx BB.out.size⟩
  refine hK.out _ _ S7 (fun hHeld2 => ?_)
  clear hK K
  try simp only [Act.put, j]
  refine wpAnyH_ready (rs := [0,4]) (by kernel_rfl) (by simp) ?_
  refine AllReadyH.cons rfl (fun K hK => ?_) ?_
  ·go_simp
   refine hK.out _ _ (by assumption) (fun hHeldB => ?_)
   clear hK K
   try simp only [Act.put, j]
   refine rdH 4 rfl fun K hK => ?_
   go_simp
   have S8 := kg S7 ((q4B w7.heap.size w7).alloc (Nat.le_refl _) (.cells #[.int .i64 T.at_, .int .i64 T.save, ag T.letter] 72)) L7.1 L7.2
   have cb8 := (ib7.alloc (.cells #[.int .i64 T.at_, .int .i64 T.save, ag T.letter] 72)).cell
   refine hK.out _ _ S8 (fun hHeld3 => ?_)
   clear hK K
   try simp only [Act.put, j]
   refine rdH 5 rfl fun K hK => ?_
   refine jc rfl _ _ 68 rfl G 72 i0 3 Tryz.underlying68 hi hz1 G pre.length o.length _ rfl (row7.alloc _) ⟨w7.heap.size, 0, none⟩ 1 1 (jq T) rfl rfl (pK _ _) (wD _) hpl ?_
   intro w9 hown9 hgrow9
   obtain ⟨hv9, k9, kp9, b9, r9, n9, bl9⟩ := yN IBX.out IR.out IN.out IB.out BB.out hGB hNG (by decide) hown9 hgrow9
   have c9 := hv9.cell
   have f9 := hv9.frozen
   have l9 := hv9.lt
   have S9 := pF S8 hgrow9 (by simp; omega) (by simp; omega) (by omega) (by omega)
   refine hK.out _ _ S9 (fun hHeld4 => ?_)
   clear hK K
   try simp only [Act.put, j]
   refine rdH 6 rfl fun K hK => ?_
   go_simp
   refine hK.out _ _ (vw S9 (by omega) (by omega)) (fun hHeld5 => ?_)
   clear hK K
   try simp only [Act.put, j]
   refine wpAnyH_done (by kernel_rfl) ?_ _
   exact ⟨k9.from _, HGG.out.symm ▸ kp9, ⟨by simpa using b9, by simpa [HTT.out] using r9⟩, n9, bl9⟩
  refine AllReadyH.cons rfl (fun K hK => ?_) AllReadyH.nil
  go_simp
  have S8 := kg S7 ((q4B w7.heap.size w7).alloc (Nat.le_refl _) (.cells #[.int .i64 T.at_, .int .i64 T.save, ag T.letter] 72)) L7.1 L7.2
  have cb8 := (ib7.alloc (.cells #[.int .i64 T.at_, .int .i64 T.save, ag T.letter] 72)).cell
  refine hK.out _ _ S8 (fun hHeld3 => ?_)
  clear hK K
  try simp only [Act.put, j]
  refine rdH 0 rfl fun K hK => ?_
  go_simp
  refine hK.out _ _ (by assumption) (fun hHeldB => ?_)
  clear hK K
  try simp only [Act.put, j]
  refine rdH 5 rfl fun K hK => ?_
  refine jc rfl _ _ 68 rfl G 72 i0 3 Tryz.underlying68 hi hz1 G pre.length o.length _ rfl (row7.alloc _) ⟨w7.heap.size, 0, none⟩ 1 1 (jq T) rfl rfl (pK _ _) (wD _) hpl ?_
  intro w9 hown9 hgrow9
  obtain ⟨hv9, k9, kp9, b9, r9, n9, bl9⟩ := yN IBX.out IR.out IN.out IB.out BB.out hGB hNG (by decide) hown9 hgrow9
  have c9 := hv9.cell
  have f9 := hv9.frozen
  have l9 := hv9.lt
  have S9 := pF S8 hgrow9 (by simp; omega) (by simp; omega) (by omega) (by omega)
  refine hK.out _ _ S9 (fun hHeld4 => ?_)
  clear hK K
  try simp only [Act.put, j]
  refine rdH 6 rfl fun K hK => ?_
  go_simp
  refine hK.out _ _ (vw S9 (by omega) (by omega)) (fun hHeld5 => ?_)
  clear hK K
  try simp only [Act.put, j]
  refine wpAnyH_done (by kernel_rfl) ?_ _
  exact ⟨k9.from _, HGG.out.symm ▸ kp9, ⟨by simpa using b9, by simpa [HTT.out] using r9⟩, n9, bl9⟩
 case done =>
  rintro D ys W hD rfl ⟨⟨ib, ir⟩, iN, iB⟩ hK
  have cb := ib.cell
  have IB := hid iB
  have IR := hid ir
  have HK := hid hK
  have hlen : (Sx.bQ o).length = o.length := by rw [Sx.bQ, Sx.kT]
  have BK := hid (belowK_b (w := w4) (n₀ := G) (by omega) W D _ (.deferred none) (by omega) hK rfl rfl)
  have RK := hid (ownsRow_putObj ir (.deferred none) hK rfl)
  rw [hlen] at cb RK
  clear iN iB ir hK
  gi_wp2
  refine ⟨by simp, .inl ⟨_, _, rfl, run_takeDeferred HK.out, ?_⟩⟩
  refine ⟨.tuple #[.slice (some ⟨G, 0, none⟩) o.length o.length, .int .i64 0], by simp [results, Tryz.results28, go_sem], ?_⟩
  refine ⟨_, by rw [HT.out], ?_, ?_⟩
  ·unfold pQ
   rw [KX.out, List.length_map, hlen]
   exact gK RK.out (by rw [HNN.out]; omega)
  ·rw [HNN.out]
   have b4 := B4.out
   rw [HNN.out] at b4
   exact b4.trans ((IB.out.trans BK.out).mono (by omega))
 case stop =>
  rintro D c pre W _ _ h _
  exact h.elim
theorem yD (rs : List Sx.Rl) (rv : Value) (name : Tx.Bs) (shift : Int) (w : World) (h : bY w rv rs) (hs : ∀ r ∈ rs, r.name.length ≤ maxLen ∧ r.letter.length ≤ maxLen) :
  Calls Tryz.prog 28 #[rv, ag name, .int .i64 shift] w (kV rs name shift w) := by
 by_cases hT : Sx.bM rs name shift = 0
 ·exact Ed rs rv name shift w h hs hT
 by_cases hE : Sx.fB ⟨rs, [], []⟩ = 0
 ·by_cases hsh : -64800 ≤ shift ∧ shift ≤ 64800
  ·exact Ci rs rv name shift w h hs hE hsh.1 hsh.2 hT
  ·exact Ch rs rv name shift w h hs hE hsh
 ·exact Cj rs rv name shift w h hs hE
end
namespace Tb
open Tx (Bs)

structure Lc where
 shift : Int
 save : Int
 name : Bs
deriving DecidableEq
abbrev least : Int := -62135596800
abbrev most : Int := 253402300799
def nu (l : Lc) : Int :=
 if (Sx.inB l.shift (-75600) 75600 && Sx.inB l.save 0 10800) = false then 3
 else if (!l.name.isEmpty && decide (l.name.length ≤ 24) && Sx.bi l.name) = false then 1 else 0
def uf (n : Int) : Bool := Sx.inB n least most

/- put in its place -/
def ins (x : Int) : List Int → List Int
 | [] => [x]
 | y :: r => if x < y then x :: y :: r else y :: ins x r
theorem jZ {α : Type} {l : List α} {i : Nat} {x : α} (h : l[i]? = some x) : l.drop i = x :: l.drop (i + 1) := by
 obtain ⟨hi, rfl⟩ := q4L.1 h
 exact List.drop_eq_getElem_cons hi
end Tb
section
open Go.RowKit

abbrev lcV (l : Tb.Lc) : Value := .agg #[.int .i64 l.shift, .int .i64 l.save, ag l.name]
def lc0 : Tb.Lc := ⟨0, 0, []⟩
def Hu := Rd 1 (fun n : Int => [Value.int .i64 n])
end
section
open Go.RowKit Go.Shelf
attribute [local go_sem] Oper.semAt_some

def fC (x : Sx.Er) : Int := Cv.num x.uy x.um x.ud * 86400 + x.uat - (if x.uclock = 2 then x.shift else 0)
def fu (l : List Sx.Er) : List Int := (l.filter fun x => !x.opn).map fC
structure kU (x : Sx.Er) : Prop where
 vld : Cv.gX x.uy x.um x.ud = true
 at0 : 0 ≤ x.uat
 at1 : x.uat ≤ 172800
 sh0 : -64800 ≤ x.shift
 sh1 : x.shift ≤ 64800
theorem xM (x : Sx.Er) (w : World) (h : kU x) : Calls Tryz.prog 51 #[gZ x] w fun e w' => e = .returned (.int .i64 (fC x)) ∧ Below w.heap.size w w' := by
 obtain ⟨sh, rl, sv, fm, op, uy, um, ud, ua, uc⟩ := x
 obtain ⟨hv, a0, a1, s0, s1⟩ := h
 dsimp only at hv a0 a1 s0 s1
 have nb := Cv.iM hv
 have n0 := nb.1
 have n1 := nb.2
 have HV := hid hv
 have HE : Hid (fC ⟨sh, rl, sv, fm, op, uy, um, ud, ua, uc⟩ = Cv.num uy um ud * 86400 + ua - (if uc = 2 then sh else 0)) := rfl
 have XV := hid (aD w (ax ⟨sh, rl, sv, fm, op, uy, um, ud, ua, uc⟩) 67)
 have BV := hid ((q4B w.heap.size w).alloc (Nat.le_refl _) (.cells (ax ⟨sh, rl, sv, fm, op, uy, um, ud, ua, uc⟩).toArray 67))
 obtain ⟨n, hn⟩ : ∃ n, Cv.num uy um ud = n := ⟨_, rfl⟩
 rw [hn] at n0 n1 HE
 have HN := hid hn
 clear hv nb hn
 go_enter Tryz.func51, Tryz.ntmps51
 go_wp2_with fail
 refine (uM _ _ _ _ HV.out).mono ?_
 rintro e w1 ⟨rfl, hb⟩
 rw [HN.out]
 have B1 : Hid (Below w.heap.size w w1) := BV.out.trans (hb.mono BV.out.size)
 have X1 := ai XV.out hb
 obtain ⟨x0, _⟩ := aa X1 0 rfl
 obtain ⟨x8, _⟩ := aa X1 8 rfl
 obtain ⟨x9, _⟩ := aa X1 9 rfl
 have sx := X1.1
 clear hb XV BV X1
 by_cases hc : uc = 2
 ·have hc2 : (uc == 2) = true := by simp [hc]
  go_wp2
  go_ret
  exact ⟨ay (by rw [HE.out, if_pos hc]), B1.out⟩
 ·have hc2 : (uc == 2) = false := by simp [hc]
  go_wp2
  go_ret
  exact ⟨ay (by rw [HE.out, if_neg hc, Int.sub_zero]), B1.out⟩
theorem Ih {x : Sx.Er} (h : kU x) : -1000000000000 ≤ fC x ∧ fC x ≤ 1000000000000 := by
 have nb := Cv.iM h.vld
 have := h.at0; have := h.at1; have := h.sh0; have := h.sh1
 unfold fC
 split <;> omega

def pO (w : World) (B : Nat) (v : Value) (l : List Int) : Prop := w.ownsRow B 3 1 v l.length (l.map (Value.int .i64))
theorem vM {w : World} {B : Nat} {v : Value} {l : List Int} (h : pO w B v l) : Hu w v l := by
 have e : ∀ l : List Int, (l.flatMap fun n : Int => [Value.int .i64 n]) = l.map (Value.int .i64) := by intro l; induction l <;> simp_all
 exact ku (B := B) (e := 3) (cells := fun n : Int => [Value.int .i64 n]) (fun _ => rfl) (by rw [e]; exact h)
theorem CU (l : List Sx.Er) (x : Sx.Er) : fu (l ++ [x]) = fu l ++ (if x.opn = true then [] else [fC x]) := by
 unfold fu
 cases q : x.opn <;> simp [List.filter_append, q]
theorem Tryz.Kb : (Tryz.prog.info? 3).map (fun i => (i.zero, i.size, i.bytes)) = some (some (.int .i64 0), 1, 8) := by kernel_rfl
/- appended in a round: what the round owes -/
theorem uz {n0 Bs Z k m size : Nat} {tT T tz : TypeId} {w W w7 w9 : World} {tmp : Obj} {v v' : Value} {xs ys : List Value} {cz : Array Value} (ib : Boxed W Bs tT v) (ir : W.ownsRow n0 T size v k xs) (iZ : W.heap[Z]? = some (.cells cz tz)) (hz : tz ≠ T) (iB : Below n0 w W) (hn : n0 ≤ W.heap.size) (BB : Below W.heap.size W w7) (hnB : n0 ≤ Bs) (hZB : Z ≠ Bs) (hte : tT ≠ T)
  (hown9 : w9.ownsRow n0 T size v' m ys) (hgrow9 : (w7.alloc tmp).grownBy w9 v.ownBlock) :
  Boxed w9 Bs tT v ∧ KeepsOthers W (w9.setCell ⟨Bs, 0, none⟩ v') ∧ KpB n0 Z W (w9.setCell ⟨Bs, 0, none⟩ v') ∧ Boxed (w9.setCell ⟨Bs, 0, none⟩ v') Bs tT v' ∧ (w9.setCell ⟨Bs, 0, none⟩ v').ownsRow n0 T size v' m ys ∧ Below n0 w (w9.setCell ⟨Bs, 0, none⟩ v') ∧ (w9.setCell ⟨Bs, 0, none⟩ v').heap[Z]? = some (.cells cz tz) := by
 have lb := ib.lt
 have ib7 : Boxed w7 Bs tT v := (BB.block _ lb).trans ib
 have r7 := aP ir BB
 obtain ⟨q1, q2, q3, q4, q5⟩ := ib7.appended hte r7 (by have := BB.size; omega) hnB hown9 hgrow9
 have lZ := (q4A.1 iZ).1
 have z7 := (BB.block _ lZ).trans iZ
 have lZ7 := (q4A.1 z7).1
 have hne : some Z ≠ v.ownBlock := by
  intro e
  rcases r7.2 with ⟨rfl, _⟩ | ⟨g, cap, cur, rfl, _, hh, _⟩
  ·simp [Value.ownBlock] at e
  ·simp [Value.ownBlock] at e
   subst e
   rw [z7] at hh
   simp at hh
   exact hz hh.2
 have z9 : (w9.setCell ⟨Bs, 0, none⟩ v').heap[Z]? = some (.cells cz tz) := by
  rw [Below.heap_setCell _ _ _ _ hZB, hgrow9.block Z (by simp; omega) hne, Below.heap_alloc _ _ _ lZ7]; exact z7
 have bw : Below n0 W (w9.setCell ⟨Bs, 0, none⟩ v') := (BB.mono hn).trans q5
 exact ⟨q1, (cO BB).trans q4, ⟨bw, fun _ => z9.trans iZ.symm⟩, q2, q3, iB.trans bw, z9⟩
theorem pq {B : Nat} {g : Option Nat} {x : Sx.Er} {w w' : World} (h : iA B x w) (hb : w.grownBy w' g) (hB : B < w.heap.size) (hn : some B ≠ g) : iA B x w' := by
 obtain ⟨b0, b1, b2, b3, b4, b5, b6, b7, b8, b9⟩ := h
 have e : ∀ k, w'.cell? ⟨B, k, none⟩ = w.cell? ⟨B, k, none⟩ := fun k => World.cell?_of_block (w := w) (hb.block _ hB hn)
 exact ⟨(e 0).trans b0, (e 1).trans b1, (e 2).trans b2, (e 3).trans b3, (e 4).trans b4, (e 5).trans b5, (e 6).trans b6, (e 7).trans b7, (e 8).trans b8, (e 9).trans b9⟩
theorem uO {B g : Nat} {x : Sx.Er} {w : World} {v : Value} (h : iA B x w) (hn : B ≠ g) : iA B x (w.setCell ⟨g, 0, none⟩ v) := by
 obtain ⟨b0, b1, b2, b3, b4, b5, b6, b7, b8, b9⟩ := h
 have e : ∀ k, (w.setCell ⟨g, 0, none⟩ v).cell? ⟨B, k, none⟩ = w.cell? ⟨B, k, none⟩ := fun k => World.cell?_of_block (w := w) (Below.heap_setCell _ _ _ _ hn)
 exact ⟨(e 0).trans b0, (e 1).trans b1, (e 2).trans b2, (e 3).trans b3, (e 4).trans b4, (e 5).trans b5, (e 6).trans b6, (e 7).trans b7, (e 8).trans b8, (e 9).trans b9⟩
theorem Dp {base size k B : Nat} {T t : TypeId} {v : Value} {xs : List Value} {cs : Array Value} {o : Obj} {W0 : World} (hr : (W0.alloc o).ownsRow base T size v k xs) (h : W0.heap[B]? = some (.cells cs t)) (ht : t ≠ T) : some B ≠ v.ownBlock := by
 intro e
 rcases hr.2 with ⟨rfl, _⟩ | ⟨g, cap, cur, rfl, _, hh, _⟩
 ·simp [Value.ownBlock] at e
 ·simp [Value.ownBlock] at e
  subst e
  rw [Below.heap_alloc _ _ _ (q4A.1 h).1, h] at hh
  simp at hh
  exact ht hh.2
theorem yT {W w7 : World} {B : Nat} {o : Obj} (h : W.heap[B]? = some o) (hb : Below W.heap.size W w7) : w7.heap[B]? = some o := (hb.block _ (q4A.1 h).1).trans h
theorem Ap (x : ZV) (w : World) (h : gQ w (.slice x.a x.z.eras.length x.c) x.z.eras) (hl : x.z.eras.length ≤ 1000) (hcp : x.z.eras.length ≤ x.c) (hok : ∀ e ∈ x.z.eras, e.opn = true ∨ kU e) :
  Calls Tryz.prog 56 #[zvV x] w fun e w' => ∃ v, e = .returned v ∧ pO w' w.heap.size v (fu x.z.eras) ∧ Below w.heap.size w w' := by
 obtain ⟨i0, hi, hz0, hz1, hz2⟩ := info_parts Tryz.Kb
 have H := hid h
 have HL := hid hl
 have HOK := hid hok
 have HCP := hid hcp
 clear h hl hok hcp
 refine (callsIn_wide (n := 4)).1 ?_
 refine callsIn_of_wp_marks Tryz.func56 rfl trivial ?_ rfl
 simp only [Tryz.ntmps56, List.size_toArray, List.length_cons, List.length_nil, Nat.reduceAdd, Nat.reduceSub, Array.replicate_succ, Array.replicate_zero, List.push_toArray, List.append_toArray, List.nil_append, List.cons_append]
 gi_wp2_with fail
 refine ⟨trivial, (callsIn_wide.2 (qd _ _ _ _)).mono ?_⟩
 rintro e w6 ⟨rfl, rfl⟩
 obtain ⟨N, hN⟩ : ∃ N, w.heap.size = N := ⟨_, rfl⟩
 obtain ⟨V, hV⟩ : ∃ V, ((((w.alloc (.cells #[ag x.z.name, .slice x.a x.z.eras.length x.c] 44)).alloc (.cells #[.slice none 0 0] 47)).alloc (.cells #[ag x.z.name, .slice x.a x.z.eras.length x.c] 44)).alloc (.cells #[.slice (some ⟨N + 1 + 1, 0, none⟩) 1 1] 23)) = V := ⟨_, rfl⟩
 have hsz : (((w.alloc (.cells #[ag x.z.name, .slice x.a x.z.eras.length x.c] 44)).alloc (.cells #[.slice none 0 0] 47)).alloc (.cells #[ag x.z.name, .slice x.a x.z.eras.length x.c] 44)).heap.size = N + 1 + 1 + 1 := by simp [hN]
 rw [hN, hsz, hV]
 have vS : V.heap.size = N + 4 := by rw [← hV]; simp [hN]
 have vb : Boxed V (N + 1) 47 (.slice none 0 0) := by
  have := Boxed.new (w.alloc (.cells #[ag x.z.name, .slice x.a x.z.eras.length x.c] 44)) 47 (.slice none 0 0)
  rw [World.size_alloc, hN] at this
  rw [← hV]; exact (this.alloc _).alloc _
 have vz : V.heap[N + 1 + 1]? = some (.cells #[ag x.z.name, .slice x.a x.z.eras.length x.c] 44) := by
  rw [← hV, Below.heap_alloc _ _ _ (by simp; omega)]
  have := World.alloc_heap_new ((w.alloc (.cells #[ag x.z.name, .slice x.a x.z.eras.length x.c] 44)).alloc (.cells #[.slice none 0 0] 47)) (.cells #[ag x.z.name, .slice x.a x.z.eras.length x.c] 44)
  simp only [World.size_alloc, hN] at this
  exact this
 have vc : V.cell? ⟨N + 1 + 1 + 1, 0, none⟩ = some (.slice (some ⟨N + 1 + 1, 0, none⟩) 1 1) := by
  have := aa (aD (((w.alloc (.cells #[ag x.z.name, .slice x.a x.z.eras.length x.c] 44)).alloc (.cells #[.slice none 0 0] 47)).alloc (.cells #[ag x.z.name, .slice x.a x.z.eras.length x.c] 44)) [.slice (some ⟨N + 1 + 1, 0, none⟩) 1 1] 23) 0 rfl
  rw [hsz] at this
  rw [← hV]; exact this.1
 have vB : Below N w V := by rw [← hV]; exact ((((q4B N w).alloc (by omega) _).alloc (by simp; omega) _).alloc (by simp; omega) _).alloc (by simp; omega) _
 have HNN := hid hN
 have hread : ∀ W A, Below V.heap.size V W → KpB N (N + 1 + 1) W A → jr A (.slice (some ⟨N + 1 + 1, 0, none⟩) [x].length 1) [x.z] [x] := by
  intro W A h1 h2
  have lW : N + 1 + 1 < W.heap.size := by have := h1.size; omega
  have zA : A.heap[N + 1 + 1]? = some (.cells #[ag x.z.name, .slice x.a x.z.eras.length x.c] 44) := (h2.2 lW).trans ((h1.block _ (by omega)).trans vz)
  have bA : Below N w A := vB.trans ((h1.mono (by omega)).trans h2.1)
  have CA := aj (vs := [ag x.z.name, .slice x.a x.z.eras.length x.c]) zA
  refine ⟨rfl, ⟨some ⟨N + 1 + 1, 0, none⟩, 1, rfl, fun _ => ⟨N + 1 + 1, 0, rfl, CA.1, ?_⟩⟩, ?_, ?_⟩
  ·intro i y hy k u hu
   match i, hy with
   | 0, hy =>
     simp at hy; subst hy
     have := (aa CA k hu).1
     simpa using this
  ·intro p hp
   simp at hp; subst hp
   exact au H.out (by rw [HNN.out]; exact bA)
  ·intro p hp
   simp at hp; subst hp
   exact HCP.out
 clear hV hsz
 gi_wp2
 refine mE rfl (by omega) (gf := 110) (lb := #[.pointer (some ⟨N + 1 + 1 + 1, 0, none⟩)]) rfl trivial (enters_of Tryz.func110 (by kernel_rfl) rfl)
  (uQ (KpB N (N + 1 + 1)) 3 (N + 1 + 1 + 1) (by omega) [x] [x.z] _ 1 V hread (by simp) (fun p hp => by simp at hp; subst hp; have := HL.out; omega) vc (by omega) (fun W _ => ⟨q4B _ _, fun _ => rfl⟩) (fun _ _ _ a b => kpb_t a b) (fun W A o h1 h2 => ⟨(q4B _ _).alloc (Nat.le_trans (by omega) (Nat.le_trans h1.size h2.1.size)) _, fun q => Below.heap_alloc _ _ _ q⟩))
  kpb_t (I7 (by omega) (by omega)) (q4B _ _) (fun _ => rfl)
  (fun (pre : List Sx.Er) W => (∃ v, Boxed W (N + 1) 47 v ∧ W.ownsRow N 3 1 v (fu pre).length ((fu pre).map (Value.int .i64)) ∧ True) ∧ Below N w W ∧ W.heap[N + 1 + 1]? = some (.cells #[ag x.z.name, .slice x.a x.z.eras.length x.c] 44))
  (fun _ _ _ => False)
  (OwnFrom.and (Own.from (holdsRow_own N (N + 1) 47 3 1 (fun (pre : List Sx.Er) => (fu pre).length) (fun (pre : List Sx.Er) => (fu pre).map (Value.int .i64)) (fun (pre : List Sx.Er) v => True)) _) (OwnFrom.and (ownFrom_below (by omega) (by omega)) (bX.own (aV (by omega)))))
  (fun _ _ _ _ _ hs _ _ => hs)
  ⟨⟨_, vb, World.ownsRow_nil _ _ _ _, trivial⟩, vB, vz⟩
  (fun e a' W => ∃ Bx, N + 1 + 1 + 1 < Bx ∧ W.heap[Bx]? = some (.cells (ax e).toArray 67 (0, 0)) ∧ a' = { tmps := #[zvV x, .pointer (some ⟨N, 0, none⟩), .slice none 0 0, .pointer (some ⟨N + 1, 0, none⟩), .pointer (some ⟨Bx, 0, none⟩), .agg #[ag x.z.name, .slice x.a x.z.eras.length x.c], .slice (some ⟨N + 1 + 1, 0, none⟩) 1 1, .func (.func 110) #[] #[.pointer (some ⟨N + 1 + 1 + 1, 0, none⟩)], gZ e, undef, undef, undef, undef, undef, undef, undef, undef, undef], defers := [] })
  ?hAx ?assign ?body ?done ?stop
 case hAx =>
  rintro e a' _ X Y row ⟨Bx, q1, q2, q3⟩ hg hr
  refine ⟨Bx, q1, ?_, q3⟩
  rw [hg.block Bx (q4A.1 q2).1 (fun e => by obtain ⟨_, o, ho, hc⟩ := hr Bx e.symm; rw [q2] at ho; cases ho; simp [Obj.isCells] at hc)]
  exact q2
 case assign =>
  rintro l pre e W K ⟨⟨v, iv, ir, _⟩, iB, iZ⟩ sz hK
  rw [vS] at sz
  have KB := hid ((q4B W.heap.size W).alloc (Nat.le_refl _) (.cells (ax e).toArray 67))
  have lZ := (q4A.1 iZ).1
  have R := hid (hK { tmps := #[zvV x, .pointer (some ⟨N, 0, none⟩), .slice none 0 0, .pointer (some ⟨N + 1, 0, none⟩), .pointer (some ⟨W.heap.size, 0, none⟩), .agg #[ag x.z.name, .slice x.a x.z.eras.length x.c], .slice (some ⟨N + 1 + 1, 0, none⟩) 1 1, .func (.func 110) #[] #[.pointer (some ⟨N + 1 + 1 + 1, 0, none⟩)], gZ e, undef, undef, undef, undef, undef, undef, undef, undef, undef], defers := [] } (W.alloc (.cells (ax e).toArray 67)) ((KeepsOthers.alloc _ _).from _) ⟨KB.out.mono (by omega), fun q => KB.out.block _ q⟩
   ⟨⟨v, iv.alloc _, ir.alloc _, trivial⟩, iB.alloc (by omega) _, (KB.out.block _ lZ).trans iZ⟩ ⟨W.heap.size, by omega, World.alloc_heap_new W _, rfl⟩)
  clear hK iv ir iB iZ
  gi_wp2
  exact R.out
 case body =>
  rintro l pre e a' W hl ⟨r, hr⟩ ⟨⟨v, iv, ir, _⟩, iB, iZ⟩ ⟨Bx, hBx, hX, rfl⟩ hpx sz
  rw [vS] at sz
  have hmem : e ∈ x.z.eras := by have := fI hpx; simpa [aS] using this
  have hok := HOK.out e hmem
  have hpl : (fu pre).length ≤ 1000 := by
   have h1 := hpx.length_le
   have h2 : (fu pre).length ≤ pre.length := by unfold fu; rw [List.length_map]; exact List.length_filter_le _ _
   have h3 : (aS [x]).length = x.z.eras.length := by simp [aS]
   have := HL.out
   rw [h3, List.length_append] at h1
   omega
  have EX := kH (aj hX)
  have x4 := EX.2.2.2.2.1
  have sx := (q4A.1 hX).1
  have lb := iv.lt
  have cb := iv.cell
  have HE := hid (CU pre e)
  have IV := hid iv
  have IR := hid ir
  have IB := hid iB
  have IZ := hid iZ
  have SZ := hid sz
  have HXX := hid hX
  clear iv ir iB iZ hr hX sz hmem hpx
  obtain ⟨q, hq⟩ : ∃ q, e.opn = q := ⟨_, rfl⟩
  rw [hq] at HE hok x4
  cases q
  case true =>
   clear hq hok
   gi_wp2
   have e3 : fu (pre ++ [e]) = fu pre := by rw [HE.out]; simp
   exact ⟨(KeepsOthers.refl _).from _, ⟨q4B _ _, fun _ => rfl⟩, ⟨v, IV.out, by rw [e3]; exact IR.out⟩, IB.out, IZ.out⟩
  case false =>
   have HOE : Hid (kU e) := by rcases hok with h | h; · cases h
                               ·exact h
   clear hq hok
   have HC2 := hid (xM e W.drew HOE.out)
   gi_wp2_with fail
   have SS : Hid (iA Bx e W.drew) := EX
   refine oU (S := fun w' => iA Bx e w') (by kernel_rfl) (by kernel_rfl) (fun ⟨_, _, q⟩ => q) SS.out (fun hHeld => ?_)
   refine tkB 1 rfl ?_
   refine wpAnyH_ready (rs := [0,2]) (by kernel_rfl) (by simp) ?_
   refine AllReadyH.cons rfl (fun K hK => ?_) ?_
   ·have cbd : W.drew.cell? ⟨N + 1, 0, none⟩ = some v := cb
    go_simp
    refine hK.out _ _ (by assumption) (fun hHeldB => ?_)
    clear hK K
    try simp only [Act.put, j]
    refine rdH 2 rfl fun K hK => ?_
    go_simp
    refine HC2.out.mono ?_
    rintro e' w7 ⟨rfl, hb7⟩
    have BB : Hid (Below W.heap.size W w7) := af hb7
    have ib7 : Boxed w7 (N + 1) 47 v := (BB.out.block _ lb).trans IV.out
    have cb7 := ib7.cell
    have row7 := aP IR.out BB.out
    have S7 := dz SS.out hb7 sx
    have L7 : Bx < w7.heap.size := q4N sx BB.out.size
    refine hK.out _ _ S7 (fun hHeld2 => ?_)
    clear hK K
    try simp only [Act.put, j]
    refine rdH 3 rfl fun K hK => ?_
    go_simp
    have S8 := dz S7 ((q4B w7.heap.size w7).alloc (Nat.le_refl _) (.cells #[.int .i64 (fC e)] 3)) L7
    have cb8 := (ib7.alloc (.cells #[.int .i64 (fC e)] 3)).cell
    refine hK.out _ _ S8 (fun hHeld3 => ?_)
    clear hK K
    try simp only [Act.put, j]
    refine rdH 4 rfl fun K hK => ?_
    refine iy rfl _ _ 47 rfl N 3 i0 (.int .i64 0) 1 8 Tryz.underlying47 hi hz0 hz1 hz2 rfl (by decide) v _ _ rfl (row7.alloc _) ⟨w7.heap.size, 0, none⟩ 1 1 [.int .i64 (fC e)] rfl rfl (one_cell _ _) (by simp [Value.oneCell']) (by unfold maxLen; omega) (by omega) (by have := BB.out.size; have := SZ.out; simp; omega) ?_
    intro v' w9 hown9 hgrow9
    obtain ⟨g', cap', rfl⟩ := ownsRow_succ hown9
    obtain ⟨hv9, k9, kp9, b9, r9, bl9, z9⟩ := uz IV.out IR.out IZ.out (by decide) IB.out (by have := SZ.out; omega) BB.out (by omega) (by omega) (by decide) hown9 hgrow9
    have c9 := hv9.cell
    have f9 := hv9.frozen
    have l9 := hv9.lt
    have S9 := pq S8 hgrow9 (by simp; omega) (Dp (row7.alloc (.cells #[.int .i64 (fC e)] 3)) (yT HXX.out BB.out) (by decide))
    refine hK.out _ _ S9 (fun hHeld4 => ?_)
    clear hK K
    try simp only [Act.put, j]
    refine rdH 5 rfl fun K hK => ?_
    go_simp
    refine hK.out _ _ (uO S9 (by omega)) (fun hHeld5 => ?_)
    clear hK K
    try simp only [Act.put, j]
    refine wpAnyH_done (by kernel_rfl) ?_ _
    exact ⟨k9.from _, kp9, ⟨_, b9, by show World.ownsRow _ _ _ _ _ _ _; rw [HE.out]; simpa using r9, trivial⟩, bl9, z9⟩
   refine AllReadyH.cons rfl (fun K hK => ?_) AllReadyH.nil
   go_simp
   refine HC2.out.mono ?_
   rintro e' w7 ⟨rfl, hb7⟩
   have BB : Hid (Below W.heap.size W w7) := af hb7
   have ib7 : Boxed w7 (N + 1) 47 v := (BB.out.block _ lb).trans IV.out
   have cb7 := ib7.cell
   have row7 := aP IR.out BB.out
   have S7 := dz SS.out hb7 sx
   have L7 : Bx < w7.heap.size := q4N sx BB.out.size
   refine hK.out _ _ S7 (fun hHeld2 => ?_)
   clear hK K
   try simp only [Act.put, j]
   refine wpAnyH_ready (rs := [0,3]) (by kernel_rfl) (by simp) ?_
   refine AllReadyH.cons rfl (fun K hK => ?_) ?_
   ·go_simp
    refine hK.out _ _ (by assumption) (fun hHeldB => ?_)
    clear hK K
    try simp only [Act.put, j]
    refine rdH 3 rfl fun K hK => ?_
    go_simp
    have S8 := dz S7 ((q4B w7.heap.size w7).alloc (Nat.le_refl _) (.cells #[.int .i64 (fC e)] 3)) L7
    have cb8 := (ib7.alloc (.cells #[.int .i64 (fC e)] 3)).cell
    refine hK.out _ _ S8 (fun hHeld3 => ?_)
    clear hK K
    try simp only [Act.put, j]
    refine rdH 4 rfl fun K hK => ?_
    refine iy rfl _ _ 47 rfl N 3 i0 (.int .i64 0) 1 8 Tryz.underlying47 hi hz0 hz1 hz2 rfl (by decide) v _ _ rfl (row7.alloc _) ⟨w7.heap.size, 0, none⟩ 1 1 [.int .i64 (fC e)] rfl rfl (one_cell _ _) (by simp [Value.oneCell']) (by unfold maxLen; omega) (by omega) (by have := BB.out.size; have := SZ.out; simp; omega) ?_
    intro v' w9 hown9 hgrow9
    obtain ⟨g', cap', rfl⟩ := ownsRow_succ hown9
    obtain ⟨hv9, k9, kp9, b9, r9, bl9, z9⟩ := uz IV.out IR.out IZ.out (by decide) IB.out (by have := SZ.out; omega) BB.out (by omega) (by omega) (by decide) hown9 hgrow9
    have c9 := hv9.cell
    have f9 := hv9.frozen
    have l9 := hv9.lt
    have S9 := pq S8 hgrow9 (by simp; omega) (Dp (row7.alloc (.cells #[.int .i64 (fC e)] 3)) (yT HXX.out BB.out) (by decide))
    refine hK.out _ _ S9 (fun hHeld4 => ?_)
    clear hK K
    try simp only [Act.put, j]
    refine rdH 5 rfl fun K hK => ?_
    go_simp
    refine hK.out _ _ (uO S9 (by omega)) (fun hHeld5 => ?_)
    clear hK K
    try simp only [Act.put, j]
    refine wpAnyH_done (by kernel_rfl) ?_ _
    exact ⟨k9.from _, kp9, ⟨_, b9, by show World.ownsRow _ _ _ _ _ _ _; rw [HE.out]; simpa using r9, trivial⟩, bl9, z9⟩
   refine AllReadyH.cons rfl (fun K hK => ?_) AllReadyH.nil
   go_simp
   have S8 := dz S7 ((q4B w7.heap.size w7).alloc (Nat.le_refl _) (.cells #[.int .i64 (fC e)] 3)) L7
   have cb8 := (ib7.alloc (.cells #[.int .i64 (fC e)] 3)).cell
   refine hK.out _ _ S8 (fun hHeld3 => ?_)
   clear hK K
   try simp only [Act.put, j]
   refine rdH 0 rfl fun K hK => ?_
   go_simp
   refine hK.out _ _ (by assumption) (fun hHeldB => ?_)
   clear hK K
   try simp only [Act.put, j]
   refine rdH 4 rfl fun K hK => ?_
   refine iy rfl _ _ 47 rfl N 3 i0 (.int .i64 0) 1 8 Tryz.underlying47 hi hz0 hz1 hz2 rfl (by decide) v _ _ rfl (row7.alloc _) ⟨w7.heap.size, 0, none⟩ 1 1 [.int .i64 (fC e)] rfl rfl (one_cell _ _) (by simp [Value.oneCell']) (by unfold maxLen; omega) (by omega) (by have := BB.out.size; have := SZ.out; simp; omega) ?_
   intro v' w9 hown9 hgrow9
   obtain ⟨g', cap', rfl⟩ := ownsRow_succ hown9
   obtain ⟨hv9, k9, kp9, b9, r9, bl9, z9⟩ := uz IV.out IR.out IZ.out (by decide) IB.out (by have := SZ.out; omega) BB.out (by omega) (by omega) (by decide) hown9 hgrow9
   have c9 := hv9.cell
   have f9 := hv9.frozen
   have l9 := hv9.lt
   have S9 := pq S8 hgrow9 (by simp; omega) (Dp (row7.alloc (.cells #[.int .i64 (fC e)] 3)) (yT HXX.out BB.out) (by decide))
   refine hK.out _ _ S9 (fun hHeld4 => ?_)
   clear hK K
   try simp only [Act.put, j]
   refine rdH 5 rfl fun K hK => ?_
   go_simp
   refine hK.out _ _ (uO S9 (by omega)) (fun hHeld5 => ?_)
   clear hK K
   try simp only [Act.put, j]
   refine wpAnyH_done (by kernel_rfl) ?_ _
   exact ⟨k9.from _, kp9, ⟨_, b9, by show World.ownsRow _ _ _ _ _ _ _; rw [HE.out]; simpa using r9, trivial⟩, bl9, z9⟩
 case done =>
  rintro D ys W hD rfl ⟨⟨v, iv, ir, _⟩, iB, iZ⟩ hK
  rw [vS] at hD
  have cb := iv.cell
  have IB := hid iB
  have HK := hid hK
  have BK := hid (belowK_b (w := w) (n₀ := N) (by omega) W D _ (.deferred none) (by omega) hK rfl rfl)
  have RK := hid (ownsRow_putObj ir (.deferred none) hK rfl)
  clear iv ir iB iZ hK
  gi_wp2
  refine ⟨by simp, .inl ⟨_, _, rfl, run_takeDeferred HK.out, ?_⟩⟩
  refine ⟨v, by simp [results, Tryz.results56, go_sem], v, rfl, ?_, ?_⟩
  ·have e : aS [x] = x.z.eras := by simp [aS]
   have := RK.out
   rw [e] at this
   rw [HNN.out]
   exact this
  ·rw [HNN.out]; exact IB.out.trans BK.out
 case stop =>
  rintro D c pre W _ _ h _
  exact h.elim
end
namespace Sx
theorem ww {rs : List Rl} (h : ¬ 40 < rs.length) : fB ⟨rs, [], []⟩ = orE (az dI (rs.drop 0)) (orE 0 0) := by
 unfold fB
 rw [if_neg (by simp [eH]; omega)]; rfl
end Sx
section
open Go.RowKit
theorem aY {α : Type} {z : Nat} {cells : α → List Value} (hz : ∀ a, (cells a).length = z) : ∀ l : List α, (l.flatMap cells).length = l.length * z
 | [] => by simp
 | a :: r => by rw [List.flatMap_cons, List.length_append, hz, aY hz r, List.length_cons, Nat.succ_mul]; omega
/- a block of so many cells, which a row of more than one element can't be -/
def Blk (w : World) (b : Nat) (e : TypeId) (z : Nat) : Prop := ∃ cs : Array Value, cs.size = z ∧ w.heap[b]? = some (.cells cs e (0, 0))
theorem JX (w : World) (vs : List Value) (e : TypeId) : Blk (w.alloc (.cells vs.toArray e)) w.heap.size e vs.length := ⟨vs.toArray, by simp, heap_alloc_new _ _⟩
theorem Fs {w w' : World} {b : Nat} {e : TypeId} {z : Nat} (h : Blk w b e z) (hb : Below w.heap.size w w') : Blk w' b e z := by
 obtain ⟨cs, h1, h2⟩ := h
 exact ⟨cs, h1, (hb.block b (q4A.1 h2).1).trans h2⟩
theorem zG {w : World} {B n1 n2 z1 z2 : Nat} {e1 e2 : TypeId} {v1 v2 : Value} {x1 x2 : List Value} (h1 : w.ownsRow B e1 z1 v1 n1 x1) (h2 : w.ownsRow B e2 z2 v2 n2 x2) (he : e1 ≠ e2) : v1.ownBlock = none ∨ v1.ownBlock ≠ v2.ownBlock := by
 rcases h1.2 with ⟨rfl, _⟩ | ⟨g, cap, cur, rfl, _, hh, _⟩
 ·exact .inl rfl
 ·right
  rcases h2.2 with ⟨rfl, _⟩ | ⟨g', cap', cur', rfl, _, hh', _⟩
  ·intro q; simp [Value.ownBlock] at q
  ·intro q
   simp [Value.ownBlock] at q
   subst q
   rw [hh] at hh'
   simp at hh'
   exact he hh'.2
end
section
open Go.RowKit Go.Shelf

theorem GL {P : Program} (w : World) (t e : TypeId) (ie : TypeInfo) (hu : P.underlying t = some (.slice e)) (hie : P.info? e = some ie) :
  (Instr.buildSlice t 0 #[]).run P w = .ok (.slice (some ⟨w.heap.size, 0, none⟩) 0 0) (w.alloc (.cells #[] e)) := by
 simp [Instr.buildSlice, run_underlying hu, sizeOf, typeInfo, hie, newRow, Instr.fill]
 rw [show Array.map (fun (_ : Nat) => (default : Value)) (Array.range 0) = #[] from Array.eq_empty_of_size_eq_zero (by simp)]
theorem aI {P : Program} {ops : Array Oper} {o : Oper} {a : Act} {w : World} {K : Act → World → Prop} {Q : Exit → Act → World → Prop} {E : Prop} (hg : o.guard = none) (t e : TypeId) (hop : o.op = Op.buildSlice t 0 #[]) (ie : TypeInfo)
  (hu : P.underlying t = some (.slice e)) (hie : P.info? e = some ie) (hK : K (a.put o.dst (.slice (some ⟨w.heap.size, 0, none⟩) 0 0)) (w.alloc (.cells #[] e))) :
  if Region.wanted o (yielded ops a.tmps) = true then Oper.wp P o a w K Q else E := by
 have hw : Region.wanted o (yielded ops a.tmps) = true := by simp [Region.wanted, hg]
 rw [if_pos hw]
 unfold Oper.wp execOp
 simp only [hop, Sem.run_bind, Array.map_empty, GL w t e ie hu hie, Result.andThen_ok]
 exact hK
theorem zK {P : Program} (w : World) (base : Nat) (t ty e : TypeId) (i : TypeInfo) (z : Value) (size bytes : Nat) (h1 : P.underlying t = some (.slice e)) (h2 : P.info? e = some i) (h3 : i.zero = some z) (h4 : i.size = size) (h5 : i.bytes = bytes) (h6 : z.cells.size = size) (h7 : 0 < size)
  (v : Value) (n : Nat) (xs : List Value) (hown : w.ownsRow base e size v n xs)
  (xa : Option Addr) (m c : Nat) (news : List Value) (hn : news.length = m * size) (hc : ∀ ad, xa = some ad → ∀ j u, news[j]? = some u → w.cell? (ad.add j) = some u) (h0 : xa = none → m = 0) (h1c : ∀ u ∈ news, u.oneCell' = true)
  (b1 : n + m ≤ maxLen) (b2 : ((n + m) + (n + m) / 4 + 192) * bytes ≤ 281474976710656) (hbase : base ≤ w.heap.size) :
  ∃ v' w', (Builtin.append_ #[t, t] ty #[v, .slice xa m c]).run P w = .ok v' w' ∧ w'.ownsRow base e size v' (n + m) (xs ++ news) ∧ w.grownBy w' v.ownBlock := by
 cases xa with
 | some ad =>
   obtain ⟨v', w', r0, r1, r2, _⟩ := run_append_own_wide (P := P) w base t ty e i z size bytes h1 h2 h3 h4 h5 h6 h7 v n xs hown ad m c news hn (hc ad rfl) h1c b1 b2 hbase
   exact ⟨v', w', r0, r1, r2⟩
 | none =>
   obtain rfl := h0 rfl
   have hnil : news = [] := List.eq_nil_of_length_eq_zero (by simpa using hn)
   subst hnil
   subst h4
   refine ⟨v, w, ?_, by simpa using hown, ⟨rfl, rfl, rfl, Nat.le_refl _, fun _ _ _ => rfl⟩⟩
   rcases hown.2 with ⟨rfl, rfl⟩ | ⟨g, cap, cur, rfl, _, hg, hnc, _⟩
   ·simp [Builtin.append_, run_underlying h1, sizeOf, typeInfo, h2, Builtin.lenOf, Builtin.firstCells]
   ·simp [Builtin.append_, run_underlying h1, sizeOf, typeInfo, h2, Builtin.lenOf, Builtin.firstCells, hnc, storeCells]
theorem aK {P : Program} {ops : Array Oper} {o : Oper} {a : Act} {w : World} {K : Act → World → Prop} {Q : Exit → Act → World → Prop} {E : Prop}
  (hg : o.guard = none) (s x : Operand) (t : TypeId) (hop : o.op = Op.call { callee := Callee.builtin Builtin.append, args := #[s, x], argTypes := #[t, t] })
  (base : Nat) (e : TypeId) (i : TypeInfo) (z : Value) (size bytes : Nat) (h1 : P.underlying t = some (.slice e)) (h2 : P.info? e = some i) (h3 : i.zero = some z) (h4 : i.size = size) (h5 : i.bytes = bytes) (h6 : z.cells.size = size) (h7 : 0 < size)
  (v : Value) (n : Nat) (xs : List Value) (hs : a.eval s = v) (hown : w.ownsRow base e size v n xs)
  (xa : Option Addr) (m c : Nat) (news : List Value) (hx : a.eval x = .slice xa m c) (hn : news.length = m * size) (hc : ∀ ad, xa = some ad → ∀ j u, news[j]? = some u → w.cell? (ad.add j) = some u) (h0 : xa = none → m = 0) (h1c : ∀ u ∈ news, u.oneCell' = true)
  (b1 : n + m ≤ maxLen) (b2 : ((n + m) + (n + m) / 4 + 192) * bytes ≤ 281474976710656) (hbase : base ≤ w.heap.size)
  (hK : ∀ v' w', w'.ownsRow base e size v' (n + m) (xs ++ news) → w.grownBy w' v.ownBlock → K (a.put o.dst v') w') :
  if Region.wanted o (yielded ops a.tmps) = true then Oper.wp P o a w K Q else E := by
 have hw : Region.wanted o (yielded ops a.tmps) = true := by simp [Region.wanted, hg]
 rw [if_pos hw]
 obtain ⟨v', w', hrun, r1, r2⟩ := zK (P := P) w base t o.type e i z size bytes h1 h2 h3 h4 h5 h6 h7 v n xs hown xa m c news hn hc h0 h1c b1 b2 hbase
 unfold Oper.wp
 simp [execOp, hop, resolve, invoke, builtin, hs, hx, hrun, Result.andThen]
 exact hK v' w' r1 r2
theorem aT {a : Act} {k : Nat} {v : Value} (h : a.tmps[k]? = some v) : a.eval (.tmp k) = v := by
 show a.tmps.getD k undef = v
 simp [Array.getD_eq_getD_getElem?, h]
theorem bf {a a0 : Act} {k : Nat} (h : a.tmps[k]? = a0.tmps[k]?) : a.eval (.tmp k) = a0.eval (.tmp k) := by
 show a.tmps.getD k undef = a0.tmps.getD k undef
 simp [Array.getD_eq_getD_getElem?, h]
theorem aF {a : Act} {k d : Nat} {x : Value} {p p' : Value → Prop} (hk : k ≠ d) (h : ∃ v, a.tmps[k]? = some v ∧ p v) (hp : ∀ v, p v → p' v) : ∃ v, (a.put (some d) x).tmps[k]? = some v ∧ p' v := by
 obtain ⟨v, h1, h2⟩ := h
 exact ⟨v, by show (a.tmps.setIfInBounds d x)[k]? = _; rw [Array.getElem?_setIfInBounds_ne (Ne.symm hk)]; exact h1, hp v h2⟩
theorem ig {a : Act} {d : Nat} {x : Value} {p' : Value → Prop} (hd : d < a.tmps.size) (hp : p' x) : ∃ v, (a.put (some d) x).tmps[d]? = some v ∧ p' v :=
 ⟨x, by show (a.tmps.setIfInBounds d x)[d]? = _; simp [hd], hp⟩
def bn (w : World) (B : Nat) (v : Value) (l : List ZV) : Prop := w.ownsRow B 44 2 v l.length (l.flatMap aJ)
theorem dH {w : World} {B b n z z' : Nat} {e e' : TypeId} {v : Value} {xs : List Value} (h : w.ownsRow B e z v n xs) (hb : Blk w b e' z') (he : e ≠ e') : ∀ k, v.ownBlock = some k → k ≠ b := by
 intro k hk q
 subst q
 rcases h.2 with ⟨rfl, _⟩ | ⟨g, cap, cur, rfl, _, hh, _⟩
 ·cases hk
 ·simp [Value.ownBlock] at hk
  subst hk
  obtain ⟨cs, _, h2⟩ := hb
  rw [hh] at h2
  simp at h2
  exact he h2.2
theorem jN {w w' : World} {b : Nat} {e : TypeId} {z : Nat} {row : Option Nat} (h : Blk w b e z) (hg : w.grownBy w' row) (hn : ∀ k, row = some k → k ≠ b) : Blk w' b e z := by
 obtain ⟨cs, h1, h2⟩ := h
 exact ⟨cs, h1, (hg.block b (q4A.1 h2).1 (fun q => hn b q.symm rfl)).trans h2⟩
theorem o8 {w : World} {b : Nat} {e : TypeId} {z : Nat} (h : Blk w b e z) (o : Obj) : Blk (w.alloc o) b e z := Fs h ((q4B _ _).alloc (Nat.le_refl _) o)
theorem rC (w : World) (M : Nat) (e : TypeId) (z : Nat) (hM : M ≤ w.heap.size) : (w.alloc (.cells #[] e)).ownsRow M e z (.slice (some ⟨w.heap.size, 0, none⟩) 0 0) 0 [] :=
 ⟨by simp, .inr ⟨w.heap.size, 0, #[], rfl, hM, heap_alloc_new _ _, Nat.le_refl _, Nat.zero_le _, by simp, by simp⟩⟩
def xq : List Value := [.slice none 0 0, .slice none 0 0, .slice none 0 0]
/- what is kept: c of the six appends (and the build behind them) are done; m0, m7, m14: the empty rows are there; m22: the new source's block is -/
structure MB (rs rt : List Sx.Rl) (ys xs : List ZV) (ls lt : List Sx.Lk) (b X : Nat) (a0 : Act) (M : Nat) (w6 : World) (c : Nat) (m0 m7 m14 m22 : Bool) (a : Act) (w : World) : Prop where
 sz : a.tmps.size = a0.tmps.size
 df : a.defers = a0.defers
 far : ∀ k, k ≠ X → k ≠ b → k ≠ b + 3 → k ≠ b + 6 → k ≠ b + 7 → k ≠ b + 10 → k ≠ b + 13 → k ≠ b + 14 → k ≠ b + 17 → k ≠ b + 20 → k ≠ b + 21 → a.tmps[k]? = a0.tmps[k]?
 bel : Below M w6 w
 hM : M ≤ w.heap.size
 r0 : c = 0 → m0 = true → ∃ v, a.tmps[b]? = some v ∧ w.ownsRow M 40 11 v 0 []
 r1 : c = 1 → ∃ v, a.tmps[b + 3]? = some v ∧ aB w M v rs
 r2 : 2 ≤ c → ∃ v, a.tmps[b + 6]? = some v ∧ aB w M v (rs ++ rt)
 z0 : c ≤ 2 → m7 = true → ∃ v, a.tmps[b + 7]? = some v ∧ w.ownsRow M 44 2 v 0 []
 z1 : c = 3 → ∃ v, a.tmps[b + 10]? = some v ∧ bn w M v ys
 z2 : 4 ≤ c → ∃ v, a.tmps[b + 13]? = some v ∧ bn w M v (ys ++ xs)
 l0 : c ≤ 4 → m14 = true → ∃ v, a.tmps[b + 14]? = some v ∧ w.ownsRow M 35 2 v 0 []
 l1 : c = 5 → ∃ v, a.tmps[b + 17]? = some v ∧ aA w M v ls
 l2 : 6 ≤ c → ∃ v, a.tmps[b + 20]? = some v ∧ aA w M v (ls ++ lt)
 bl : 7 ≤ c → ∃ r z l, a.tmps[b + 6]? = some r ∧ a.tmps[b + 13]? = some z ∧ a.tmps[b + 20]? = some l ∧ a.tmps[b + 21]? = some (.agg #[r, z, l])
 bx : m22 = true → ∃ v, a.tmps[X]? = some v ∧ ∃ B, v = .pointer (some ⟨B, 0, none⟩) ∧ M ≤ B ∧ ak w B xq ∧ Blk w B 26 3
section
variable {rs rt : List Sx.Rl} {ys xs : List ZV} {ls lt : List Sx.Lk} {b X : Nat} {a0 : Act} {M : Nat} {w6 : World} {c : Nat} {m0 m7 m14 m22 : Bool} {a : Act} {w w' : World}
theorem jD (hX : X < b) (hb : b + 21 < a0.tmps.size) (H : MB rs rt ys xs ls lt b X a0 M w6 0 false m7 m14 m22 a w) :
  MB rs rt ys xs ls lt b X a0 M w6 0 true m7 m14 m22 (a.put (some (b)) (.slice (some ⟨w.heap.size, 0, none⟩) 0 0)) (w.alloc (.cells #[] 40)) := by
 have hd : b < a.tmps.size := by rw [H.sz]; omega
 refine ⟨by show (a.tmps.setIfInBounds _ _).size = _; simp [H.sz],
  H.df,
  fun k n0 n1 n2 n3 n4 n5 n6 n7 n8 n9 n10 => by show (a.tmps.setIfInBounds _ _)[k]? = _; rw [Array.getElem?_setIfInBounds_ne (Ne.symm n1)]; exact H.far k n0 n1 n2 n3 n4 n5 n6 n7 n8 n9 n10,
  H.bel.alloc H.hM _,
  by have := H.hM; simp; omega,
  fun _ _ => ig hd (rC w M _ _ H.hM),
  fun h1 => aF (by omega) (H.r1 (by omega)) (fun v o => World.ownsRow.alloc o _),
  fun h1 => aF (by omega) (H.r2 (by omega)) (fun v o => World.ownsRow.alloc o _),
  fun h1 h2 => aF (by omega) (H.z0 (by omega) h2) (fun v o => World.ownsRow.alloc o _),
  fun h1 => aF (by omega) (H.z1 (by omega)) (fun v o => World.ownsRow.alloc o _),
  fun h1 => aF (by omega) (H.z2 (by omega)) (fun v o => World.ownsRow.alloc o _),
  fun h1 h2 => aF (by omega) (H.l0 (by omega) h2) (fun v o => World.ownsRow.alloc o _),
  fun h1 => aF (by omega) (H.l1 (by omega)) (fun v o => World.ownsRow.alloc o _),
  fun h1 => aF (by omega) (H.l2 (by omega)) (fun v o => World.ownsRow.alloc o _),
  fun h => absurd h (by omega),
  fun h => aF (by omega) (H.bx h) (fun v ⟨B, e, hB, hc, hk⟩ => ⟨B, e, hB, aM hc _, o8 hk _⟩)⟩
theorem dX (hc7 : c ≤ 2) (hX : X < b) (hb : b + 21 < a0.tmps.size) (H : MB rs rt ys xs ls lt b X a0 M w6 c m0 false m14 m22 a w) :
  MB rs rt ys xs ls lt b X a0 M w6 c m0 true m14 m22 (a.put (some (b + 7)) (.slice (some ⟨w.heap.size, 0, none⟩) 0 0)) (w.alloc (.cells #[] 44)) := by
 have hd : b + 7 < a.tmps.size := by rw [H.sz]; omega
 refine ⟨by show (a.tmps.setIfInBounds _ _).size = _; simp [H.sz],
  H.df,
  fun k n0 n1 n2 n3 n4 n5 n6 n7 n8 n9 n10 => by show (a.tmps.setIfInBounds _ _)[k]? = _; rw [Array.getElem?_setIfInBounds_ne (Ne.symm n4)]; exact H.far k n0 n1 n2 n3 n4 n5 n6 n7 n8 n9 n10,
  H.bel.alloc H.hM _,
  by have := H.hM; simp; omega,
  fun h1 h2 => aF (by omega) (H.r0 (by omega) h2) (fun v o => World.ownsRow.alloc o _),
  fun h1 => aF (by omega) (H.r1 (by omega)) (fun v o => World.ownsRow.alloc o _),
  fun h1 => aF (by omega) (H.r2 (by omega)) (fun v o => World.ownsRow.alloc o _),
  fun _ _ => ig hd (rC w M _ _ H.hM),
  fun h1 => aF (by omega) (H.z1 (by omega)) (fun v o => World.ownsRow.alloc o _),
  fun h1 => aF (by omega) (H.z2 (by omega)) (fun v o => World.ownsRow.alloc o _),
  fun h1 h2 => aF (by omega) (H.l0 (by omega) h2) (fun v o => World.ownsRow.alloc o _),
  fun h1 => aF (by omega) (H.l1 (by omega)) (fun v o => World.ownsRow.alloc o _),
  fun h1 => aF (by omega) (H.l2 (by omega)) (fun v o => World.ownsRow.alloc o _),
  fun h => by
   obtain ⟨r, z, l, h1, h2, h3, h4⟩ := H.bl h
   have up : ∀ (k : Nat) (v : Value), k ≠ b + 7 → a.tmps[k]? = some v → (a.put (some (b + 7)) (.slice (some ⟨w.heap.size, 0, none⟩) 0 0)).tmps[k]? = some v := fun k v hk hv => by show (a.tmps.setIfInBounds _ _)[k]? = _; rw [Array.getElem?_setIfInBounds_ne (Ne.symm hk)]; exact hv
   exact ⟨r, z, l, up _ _ (by omega) h1, up _ _ (by omega) h2, up _ _ (by omega) h3, up _ _ (by omega) h4⟩,
  fun h => aF (by omega) (H.bx h) (fun v ⟨B, e, hB, hc, hk⟩ => ⟨B, e, hB, aM hc _, o8 hk _⟩)⟩
theorem bI (hc14 : c ≤ 4) (hX : X < b) (hb : b + 21 < a0.tmps.size) (H : MB rs rt ys xs ls lt b X a0 M w6 c m0 m7 false m22 a w) :
  MB rs rt ys xs ls lt b X a0 M w6 c m0 m7 true m22 (a.put (some (b + 14)) (.slice (some ⟨w.heap.size, 0, none⟩) 0 0)) (w.alloc (.cells #[] 35)) := by
 have hd : b + 14 < a.tmps.size := by rw [H.sz]; omega
 refine ⟨by show (a.tmps.setIfInBounds _ _).size = _; simp [H.sz],
  H.df,
  fun k n0 n1 n2 n3 n4 n5 n6 n7 n8 n9 n10 => by show (a.tmps.setIfInBounds _ _)[k]? = _; rw [Array.getElem?_setIfInBounds_ne (Ne.symm n7)]; exact H.far k n0 n1 n2 n3 n4 n5 n6 n7 n8 n9 n10,
  H.bel.alloc H.hM _,
  by have := H.hM; simp; omega,
  fun h1 h2 => aF (by omega) (H.r0 (by omega) h2) (fun v o => World.ownsRow.alloc o _),
  fun h1 => aF (by omega) (H.r1 (by omega)) (fun v o => World.ownsRow.alloc o _),
  fun h1 => aF (by omega) (H.r2 (by omega)) (fun v o => World.ownsRow.alloc o _),
  fun h1 h2 => aF (by omega) (H.z0 (by omega) h2) (fun v o => World.ownsRow.alloc o _),
  fun h1 => aF (by omega) (H.z1 (by omega)) (fun v o => World.ownsRow.alloc o _),
  fun h1 => aF (by omega) (H.z2 (by omega)) (fun v o => World.ownsRow.alloc o _),
  fun _ _ => ig hd (rC w M _ _ H.hM),
  fun h1 => aF (by omega) (H.l1 (by omega)) (fun v o => World.ownsRow.alloc o _),
  fun h1 => aF (by omega) (H.l2 (by omega)) (fun v o => World.ownsRow.alloc o _),
  fun h => by
   obtain ⟨r, z, l, h1, h2, h3, h4⟩ := H.bl h
   have up : ∀ (k : Nat) (v : Value), k ≠ b + 14 → a.tmps[k]? = some v → (a.put (some (b + 14)) (.slice (some ⟨w.heap.size, 0, none⟩) 0 0)).tmps[k]? = some v := fun k v hk hv => by show (a.tmps.setIfInBounds _ _)[k]? = _; rw [Array.getElem?_setIfInBounds_ne (Ne.symm hk)]; exact hv
   exact ⟨r, z, l, up _ _ (by omega) h1, up _ _ (by omega) h2, up _ _ (by omega) h3, up _ _ (by omega) h4⟩,
  fun h => aF (by omega) (H.bx h) (fun v ⟨B, e, hB, hc, hk⟩ => ⟨B, e, hB, aM hc _, o8 hk _⟩)⟩
theorem bW (hX : X < b) (hb : b + 21 < a0.tmps.size) (H : MB rs rt ys xs ls lt b X a0 M w6 c m0 m7 m14 false a w) :
  MB rs rt ys xs ls lt b X a0 M w6 c m0 m7 m14 true (a.put (some (X)) (.pointer (some ⟨w.heap.size, 0, none⟩))) (w.alloc (.cells xq.toArray 26)) := by
 have hd : X < a.tmps.size := by rw [H.sz]; omega
 refine ⟨by show (a.tmps.setIfInBounds _ _).size = _; simp [H.sz],
  H.df,
  fun k n0 n1 n2 n3 n4 n5 n6 n7 n8 n9 n10 => by show (a.tmps.setIfInBounds _ _)[k]? = _; rw [Array.getElem?_setIfInBounds_ne (Ne.symm n0)]; exact H.far k n0 n1 n2 n3 n4 n5 n6 n7 n8 n9 n10,
  H.bel.alloc H.hM _,
  by have := H.hM; simp; omega,
  fun h1 h2 => aF (by omega) (H.r0 (by omega) h2) (fun v o => World.ownsRow.alloc o _),
  fun h1 => aF (by omega) (H.r1 (by omega)) (fun v o => World.ownsRow.alloc o _),
  fun h1 => aF (by omega) (H.r2 (by omega)) (fun v o => World.ownsRow.alloc o _),
  fun h1 h2 => aF (by omega) (H.z0 (by omega) h2) (fun v o => World.ownsRow.alloc o _),
  fun h1 => aF (by omega) (H.z1 (by omega)) (fun v o => World.ownsRow.alloc o _),
  fun h1 => aF (by omega) (H.z2 (by omega)) (fun v o => World.ownsRow.alloc o _),
  fun h1 h2 => aF (by omega) (H.l0 (by omega) h2) (fun v o => World.ownsRow.alloc o _),
  fun h1 => aF (by omega) (H.l1 (by omega)) (fun v o => World.ownsRow.alloc o _),
  fun h1 => aF (by omega) (H.l2 (by omega)) (fun v o => World.ownsRow.alloc o _),
  fun h => by
   obtain ⟨r, z, l, h1, h2, h3, h4⟩ := H.bl h
   have up : ∀ (k : Nat) (v : Value), k ≠ X → a.tmps[k]? = some v → (a.put (some (X)) (.pointer (some ⟨w.heap.size, 0, none⟩))).tmps[k]? = some v := fun k v hk hv => by show (a.tmps.setIfInBounds _ _)[k]? = _; rw [Array.getElem?_setIfInBounds_ne (Ne.symm hk)]; exact hv
   exact ⟨r, z, l, up _ _ (by omega) h1, up _ _ (by omega) h2, up _ _ (by omega) h3, up _ _ (by omega) h4⟩,
  fun h => ig hd ⟨w.heap.size, rfl, H.hM, aD w xq _, JX w xq _⟩⟩
theorem aW {M n1 n2 z1 z2 : Nat} {e1 e2 : TypeId} {v1 v2 : Value} {x1 x2 : List Value} (h1 : w.ownsRow M e1 z1 v1 n1 x1) (h2 : w.ownsRow M e2 z2 v2 n2 x2) (he : e1 ≠ e2) (hg : w.grownBy w' v2.ownBlock) : w'.ownsRow M e1 z1 v1 n1 x1 :=
 h1.kept hg (zG h1 h2 he)
theorem jB (hX : X < b) (hb : b + 21 < a0.tmps.size) (H : MB rs rt ys xs ls lt b X a0 M w6 0 true m7 m14 m22 a w) {v v' : Value} {n : Nat} {vs : List Value} (hown0 : w.ownsRow M 40 11 v n vs) (hown : aB w' M v' rs) (hg : w.grownBy w' v.ownBlock) :
  MB rs rt ys xs ls lt b X a0 M w6 1 true m7 m14 m22 (a.put (some (b + 3)) v') w' := by
 have hd : b + 3 < a.tmps.size := by rw [H.sz]; omega
 refine ⟨by show (a.tmps.setIfInBounds _ _).size = _; simp [H.sz],
  H.df,
  fun k n0 n1 n2 n3 n4 n5 n6 n7 n8 n9 n10 => by show (a.tmps.setIfInBounds _ _)[k]? = _; rw [Array.getElem?_setIfInBounds_ne (Ne.symm n2)]; exact H.far k n0 n1 n2 n3 n4 n5 n6 n7 n8 n9 n10,
  Below.grown H.bel hg H.hM (fun k hk => by have := (hown0.lt k hk).1; omega),
  Nat.le_trans H.hM hg.size,
  fun h1 h2 => absurd h1 (by omega),
  fun _ => ig hd (hown),
  fun h1 => absurd h1 (by omega),
  fun h1 h2 => aF (by omega) (H.z0 (by omega) h2) (fun v o => aW o hown0 (by decide) hg),
  fun h1 => aF (by omega) (H.z1 (by omega)) (fun v o => aW o hown0 (by decide) hg),
  fun h1 => aF (by omega) (H.z2 (by omega)) (fun v o => aW o hown0 (by decide) hg),
  fun h1 h2 => aF (by omega) (H.l0 (by omega) h2) (fun v o => aW o hown0 (by decide) hg),
  fun h1 => aF (by omega) (H.l1 (by omega)) (fun v o => aW o hown0 (by decide) hg),
  fun h1 => aF (by omega) (H.l2 (by omega)) (fun v o => aW o hown0 (by decide) hg),
  fun h => absurd h (by omega),
  fun h => aF (by omega) (H.bx h) (fun v ⟨B, e, hB, hc, hk⟩ => ⟨B, e, hB, ca_grownO hc hg (dH hown0 hk (by decide)), jN hk hg (dH hown0 hk (by decide))⟩)⟩
theorem jC (hX : X < b) (hb : b + 21 < a0.tmps.size) (H : MB rs rt ys xs ls lt b X a0 M w6 1 true m7 m14 m22 a w) {v v' : Value} {n : Nat} {vs : List Value} (hown0 : w.ownsRow M 40 11 v n vs) (hown : aB w' M v' (rs ++ rt)) (hg : w.grownBy w' v.ownBlock) :
  MB rs rt ys xs ls lt b X a0 M w6 2 true m7 m14 m22 (a.put (some (b + 6)) v') w' := by
 have hd : b + 6 < a.tmps.size := by rw [H.sz]; omega
 refine ⟨by show (a.tmps.setIfInBounds _ _).size = _; simp [H.sz],
  H.df,
  fun k n0 n1 n2 n3 n4 n5 n6 n7 n8 n9 n10 => by show (a.tmps.setIfInBounds _ _)[k]? = _; rw [Array.getElem?_setIfInBounds_ne (Ne.symm n3)]; exact H.far k n0 n1 n2 n3 n4 n5 n6 n7 n8 n9 n10,
  Below.grown H.bel hg H.hM (fun k hk => by have := (hown0.lt k hk).1; omega),
  Nat.le_trans H.hM hg.size,
  fun h1 h2 => absurd h1 (by omega),
  fun h1 => absurd h1 (by omega),
  fun _ => ig hd (hown),
  fun h1 h2 => aF (by omega) (H.z0 (by omega) h2) (fun v o => aW o hown0 (by decide) hg),
  fun h1 => aF (by omega) (H.z1 (by omega)) (fun v o => aW o hown0 (by decide) hg),
  fun h1 => aF (by omega) (H.z2 (by omega)) (fun v o => aW o hown0 (by decide) hg),
  fun h1 h2 => aF (by omega) (H.l0 (by omega) h2) (fun v o => aW o hown0 (by decide) hg),
  fun h1 => aF (by omega) (H.l1 (by omega)) (fun v o => aW o hown0 (by decide) hg),
  fun h1 => aF (by omega) (H.l2 (by omega)) (fun v o => aW o hown0 (by decide) hg),
  fun h => absurd h (by omega),
  fun h => aF (by omega) (H.bx h) (fun v ⟨B, e, hB, hc, hk⟩ => ⟨B, e, hB, ca_grownO hc hg (dH hown0 hk (by decide)), jN hk hg (dH hown0 hk (by decide))⟩)⟩
theorem nz (hX : X < b) (hb : b + 21 < a0.tmps.size) (H : MB rs rt ys xs ls lt b X a0 M w6 2 m0 true m14 m22 a w) {v v' : Value} {n : Nat} {vs : List Value} (hown0 : w.ownsRow M 44 2 v n vs) (hown : bn w' M v' ys) (hg : w.grownBy w' v.ownBlock) :
  MB rs rt ys xs ls lt b X a0 M w6 3 m0 true m14 m22 (a.put (some (b + 10)) v') w' := by
 have hd : b + 10 < a.tmps.size := by rw [H.sz]; omega
 refine ⟨by show (a.tmps.setIfInBounds _ _).size = _; simp [H.sz],
  H.df,
  fun k n0 n1 n2 n3 n4 n5 n6 n7 n8 n9 n10 => by show (a.tmps.setIfInBounds _ _)[k]? = _; rw [Array.getElem?_setIfInBounds_ne (Ne.symm n5)]; exact H.far k n0 n1 n2 n3 n4 n5 n6 n7 n8 n9 n10,
  Below.grown H.bel hg H.hM (fun k hk => by have := (hown0.lt k hk).1; omega),
  Nat.le_trans H.hM hg.size,
  fun h1 h2 => aF (by omega) (H.r0 (by omega) h2) (fun v o => aW o hown0 (by decide) hg),
  fun h1 => aF (by omega) (H.r1 (by omega)) (fun v o => aW o hown0 (by decide) hg),
  fun h1 => aF (by omega) (H.r2 (by omega)) (fun v o => aW o hown0 (by decide) hg),
  fun h1 h2 => absurd h1 (by omega),
  fun _ => ig hd (hown),
  fun h1 => absurd h1 (by omega),
  fun h1 h2 => aF (by omega) (H.l0 (by omega) h2) (fun v o => aW o hown0 (by decide) hg),
  fun h1 => aF (by omega) (H.l1 (by omega)) (fun v o => aW o hown0 (by decide) hg),
  fun h1 => aF (by omega) (H.l2 (by omega)) (fun v o => aW o hown0 (by decide) hg),
  fun h => absurd h (by omega),
  fun h => aF (by omega) (H.bx h) (fun v ⟨B, e, hB, hc, hk⟩ => ⟨B, e, hB, ca_grownO hc hg (dH hown0 hk (by decide)), jN hk hg (dH hown0 hk (by decide))⟩)⟩
theorem nA (hX : X < b) (hb : b + 21 < a0.tmps.size) (H : MB rs rt ys xs ls lt b X a0 M w6 3 m0 true m14 m22 a w) {v v' : Value} {n : Nat} {vs : List Value} (hown0 : w.ownsRow M 44 2 v n vs) (hown : bn w' M v' (ys ++ xs)) (hg : w.grownBy w' v.ownBlock) :
  MB rs rt ys xs ls lt b X a0 M w6 4 m0 true m14 m22 (a.put (some (b + 13)) v') w' := by
 have hd : b + 13 < a.tmps.size := by rw [H.sz]; omega
 refine ⟨by show (a.tmps.setIfInBounds _ _).size = _; simp [H.sz],
  H.df,
  fun k n0 n1 n2 n3 n4 n5 n6 n7 n8 n9 n10 => by show (a.tmps.setIfInBounds _ _)[k]? = _; rw [Array.getElem?_setIfInBounds_ne (Ne.symm n6)]; exact H.far k n0 n1 n2 n3 n4 n5 n6 n7 n8 n9 n10,
  Below.grown H.bel hg H.hM (fun k hk => by have := (hown0.lt k hk).1; omega),
  Nat.le_trans H.hM hg.size,
  fun h1 h2 => aF (by omega) (H.r0 (by omega) h2) (fun v o => aW o hown0 (by decide) hg),
  fun h1 => aF (by omega) (H.r1 (by omega)) (fun v o => aW o hown0 (by decide) hg),
  fun h1 => aF (by omega) (H.r2 (by omega)) (fun v o => aW o hown0 (by decide) hg),
  fun h1 h2 => absurd h1 (by omega),
  fun h1 => absurd h1 (by omega),
  fun _ => ig hd (hown),
  fun h1 h2 => aF (by omega) (H.l0 (by omega) h2) (fun v o => aW o hown0 (by decide) hg),
  fun h1 => aF (by omega) (H.l1 (by omega)) (fun v o => aW o hown0 (by decide) hg),
  fun h1 => aF (by omega) (H.l2 (by omega)) (fun v o => aW o hown0 (by decide) hg),
  fun h => absurd h (by omega),
  fun h => aF (by omega) (H.bx h) (fun v ⟨B, e, hB, hc, hk⟩ => ⟨B, e, hB, ca_grownO hc hg (dH hown0 hk (by decide)), jN hk hg (dH hown0 hk (by decide))⟩)⟩
theorem zu (hX : X < b) (hb : b + 21 < a0.tmps.size) (H : MB rs rt ys xs ls lt b X a0 M w6 4 m0 m7 true m22 a w) {v v' : Value} {n : Nat} {vs : List Value} (hown0 : w.ownsRow M 35 2 v n vs) (hown : aA w' M v' ls) (hg : w.grownBy w' v.ownBlock) :
  MB rs rt ys xs ls lt b X a0 M w6 5 m0 m7 true m22 (a.put (some (b + 17)) v') w' := by
 have hd : b + 17 < a.tmps.size := by rw [H.sz]; omega
 refine ⟨by show (a.tmps.setIfInBounds _ _).size = _; simp [H.sz],
  H.df,
  fun k n0 n1 n2 n3 n4 n5 n6 n7 n8 n9 n10 => by show (a.tmps.setIfInBounds _ _)[k]? = _; rw [Array.getElem?_setIfInBounds_ne (Ne.symm n8)]; exact H.far k n0 n1 n2 n3 n4 n5 n6 n7 n8 n9 n10,
  Below.grown H.bel hg H.hM (fun k hk => by have := (hown0.lt k hk).1; omega),
  Nat.le_trans H.hM hg.size,
  fun h1 h2 => aF (by omega) (H.r0 (by omega) h2) (fun v o => aW o hown0 (by decide) hg),
  fun h1 => aF (by omega) (H.r1 (by omega)) (fun v o => aW o hown0 (by decide) hg),
  fun h1 => aF (by omega) (H.r2 (by omega)) (fun v o => aW o hown0 (by decide) hg),
  fun h1 h2 => aF (by omega) (H.z0 (by omega) h2) (fun v o => aW o hown0 (by decide) hg),
  fun h1 => aF (by omega) (H.z1 (by omega)) (fun v o => aW o hown0 (by decide) hg),
  fun h1 => aF (by omega) (H.z2 (by omega)) (fun v o => aW o hown0 (by decide) hg),
  fun h1 h2 => absurd h1 (by omega),
  fun _ => ig hd (hown),
  fun h1 => absurd h1 (by omega),
  fun h => absurd h (by omega),
  fun h => aF (by omega) (H.bx h) (fun v ⟨B, e, hB, hc, hk⟩ => ⟨B, e, hB, ca_grownO hc hg (dH hown0 hk (by decide)), jN hk hg (dH hown0 hk (by decide))⟩)⟩
theorem zw (hX : X < b) (hb : b + 21 < a0.tmps.size) (H : MB rs rt ys xs ls lt b X a0 M w6 5 m0 m7 true m22 a w) {v v' : Value} {n : Nat} {vs : List Value} (hown0 : w.ownsRow M 35 2 v n vs) (hown : aA w' M v' (ls ++ lt)) (hg : w.grownBy w' v.ownBlock) :
  MB rs rt ys xs ls lt b X a0 M w6 6 m0 m7 true m22 (a.put (some (b + 20)) v') w' := by
 have hd : b + 20 < a.tmps.size := by rw [H.sz]; omega
 refine ⟨by show (a.tmps.setIfInBounds _ _).size = _; simp [H.sz],
  H.df,
  fun k n0 n1 n2 n3 n4 n5 n6 n7 n8 n9 n10 => by show (a.tmps.setIfInBounds _ _)[k]? = _; rw [Array.getElem?_setIfInBounds_ne (Ne.symm n9)]; exact H.far k n0 n1 n2 n3 n4 n5 n6 n7 n8 n9 n10,
  Below.grown H.bel hg H.hM (fun k hk => by have := (hown0.lt k hk).1; omega),
  Nat.le_trans H.hM hg.size,
  fun h1 h2 => aF (by omega) (H.r0 (by omega) h2) (fun v o => aW o hown0 (by decide) hg),
  fun h1 => aF (by omega) (H.r1 (by omega)) (fun v o => aW o hown0 (by decide) hg),
  fun h1 => aF (by omega) (H.r2 (by omega)) (fun v o => aW o hown0 (by decide) hg),
  fun h1 h2 => aF (by omega) (H.z0 (by omega) h2) (fun v o => aW o hown0 (by decide) hg),
  fun h1 => aF (by omega) (H.z1 (by omega)) (fun v o => aW o hown0 (by decide) hg),
  fun h1 => aF (by omega) (H.z2 (by omega)) (fun v o => aW o hown0 (by decide) hg),
  fun h1 h2 => absurd h1 (by omega),
  fun h1 => absurd h1 (by omega),
  fun _ => ig hd (hown),
  fun h => absurd h (by omega),
  fun h => aF (by omega) (H.bx h) (fun v ⟨B, e, hB, hc, hk⟩ => ⟨B, e, hB, ca_grownO hc hg (dH hown0 hk (by decide)), jN hk hg (dH hown0 hk (by decide))⟩)⟩
theorem zy {r z l : Value} (hX : X < b) (hb : b + 21 < a0.tmps.size) (H : MB rs rt ys xs ls lt b X a0 M w6 6 m0 m7 m14 m22 a w) (e1 : a.tmps[b + 6]? = some r) (e2 : a.tmps[b + 13]? = some z) (e3 : a.tmps[b + 20]? = some l) : MB rs rt ys xs ls lt b X a0 M w6 7 m0 m7 m14 m22 (a.put (some (b + 21)) (.agg #[r, z, l])) w := by
 obtain ⟨r', f1, o1⟩ := H.r2 (by omega)
 obtain ⟨z', f2, o2⟩ := H.z2 (by omega)
 obtain ⟨l', f3, o3⟩ := H.l2 (by omega)
 obtain rfl : r = r' := by rw [e1] at f1; exact Option.some.inj f1
 obtain rfl : z = z' := by rw [e2] at f2; exact Option.some.inj f2
 obtain rfl : l = l' := by rw [e3] at f3; exact Option.some.inj f3
 have hd : b + 21 < a.tmps.size := by rw [H.sz]; omega
 have up : ∀ (k : Nat) (v : Value), k ≠ b + 21 → a.tmps[k]? = some v → (a.put (some (b + 21)) (.agg #[r, z, l])).tmps[k]? = some v := fun k v hk hv => by show (a.tmps.setIfInBounds _ _)[k]? = _; rw [Array.getElem?_setIfInBounds_ne (Ne.symm hk)]; exact hv
 refine ⟨by show (a.tmps.setIfInBounds _ _).size = _; simp [H.sz], H.df, fun k n0 n1 n2 n3 n4 n5 n6 n7 n8 n9 n10 => by show (a.tmps.setIfInBounds _ _)[k]? = _; rw [Array.getElem?_setIfInBounds_ne (Ne.symm n10)]; exact H.far k n0 n1 n2 n3 n4 n5 n6 n7 n8 n9 n10, H.bel, H.hM,
  fun h => absurd h (by omega), fun h => absurd h (by omega), fun _ => ⟨r, up _ _ (by omega) e1, o1⟩, fun h => absurd h (by omega), fun h => absurd h (by omega), fun _ => ⟨z, up _ _ (by omega) e2, o2⟩, fun h => absurd h (by omega), fun h => absurd h (by omega), fun _ => ⟨l, up _ _ (by omega) e3, o3⟩,
  fun _ => ⟨r, z, l, up _ _ (by omega) e1, up _ _ (by omega) e2, up _ _ (by omega) e3, by show (a.tmps.setIfInBounds _ _)[b + 21]? = _; simp [hd]⟩, fun h => aF (by omega) (H.bx h) (fun v p => p)⟩
def ru (a0 : Act) (b X : Nat) (x0 x3 x6 x7 x10 x13 x14 x17 x20 x21 xX : Value) : Act :=
 ((((((((((a0.put (some X) xX).put (some b) x0).put (some (b + 3)) x3).put (some (b + 6)) x6).put (some (b + 7)) x7).put (some (b + 10)) x10).put (some (b + 13)) x13).put (some (b + 14)) x14).put (some (b + 17)) x17).put (some (b + 20)) x20).put (some (b + 21)) x21
theorem Km {a : Act} {d k : Nat} {x : Value} (hd : d < a.tmps.size) : (a.put (some d) x).tmps[k]? = if k = d then some x else a.tmps[k]? := by
 show (a.tmps.setIfInBounds d x)[k]? = _
 by_cases q : k = d
 ·subst q; rw [if_pos rfl]; simp [hd]
 ·rw [if_neg q, Array.getElem?_setIfInBounds_ne (Ne.symm q)]
theorem Jh {a : Act} {d : Nat} {x : Value} : (a.put (some d) x).tmps.size = a.tmps.size := by
 show (a.tmps.setIfInBounds d x).size = _; simp
theorem Lv {a : Act} {d : Nat} {x : Value} : (a.put (some d) x).defers = a.defers := rfl
theorem Fx {x0 x3 x6 x7 x10 x13 x14 x17 x20 x21 xX : Value} (hX : X < b) (hb : b + 21 < a0.tmps.size) (k : Nat) : (ru a0 b X x0 x3 x6 x7 x10 x13 x14 x17 x20 x21 xX).tmps[k]? =
  if k = b + 21 then some x21 else if k = b + 20 then some x20 else if k = b + 17 then some x17 else if k = b + 14 then some x14 else if k = b + 13 then some x13 else if k = b + 10 then some x10 else if k = b + 7 then some x7 else if k = b + 6 then some x6 else if k = b + 3 then some x3 else if k = b then some x0 else if k = X then some xX else a0.tmps[k]? := by
 unfold ru
 iterate 11 rw [Km (by first | omega | (simp only [Jh]; omega))]
theorem Li (hX : X < b) (hb : b + 21 < a0.tmps.size) (H : MB rs rt ys xs ls lt b X a0 M w6 7 m0 m7 m14 true a w) :
  ∃ x0 x3 x7 x10 x14 x17 va ka vb kb vc kc B, a = ru a0 b X x0 x3 (.slice va (rs ++ rt).length ka) x7 x10 (.slice vb (ys ++ xs).length kb) x14 x17 (.slice vc (ls ++ lt).length kc) (.agg #[.slice va (rs ++ rt).length ka, .slice vb (ys ++ xs).length kb, .slice vc (ls ++ lt).length kc]) (.pointer (some ⟨B, 0, none⟩)) ∧
   aB w M (.slice va (rs ++ rt).length ka) (rs ++ rt) ∧ bn w M (.slice vb (ys ++ xs).length kb) (ys ++ xs) ∧ aA w M (.slice vc (ls ++ lt).length kc) (ls ++ lt) ∧ M ≤ B ∧ ak w B xq ∧ Blk w B 26 3 := by
 obtain ⟨r, e1, o1⟩ := H.r2 (by omega)
 obtain ⟨z, e2, o2⟩ := H.z2 (by omega)
 obtain ⟨l, e3, o3⟩ := H.l2 (by omega)
 obtain ⟨r', z', l', f1, f2, f3, f4⟩ := H.bl (by omega)
 obtain rfl : r = r' := by rw [e1] at f1; exact Option.some.inj f1
 obtain rfl : z = z' := by rw [e2] at f2; exact Option.some.inj f2
 obtain rfl : l = l' := by rw [e3] at f3; exact Option.some.inj f3
 obtain ⟨v, ev, B, rfl, hB, hc, hk⟩ := H.bx rfl
 obtain ⟨va, ka, rfl⟩ := aQ o1
 obtain ⟨vb, kb, rfl⟩ := aQ o2
 obtain ⟨vc, kc, rfl⟩ := aQ o3
 have at_ : ∀ k, k < a0.tmps.size → a.tmps[k]? = some (a.tmps.getD k undef) := fun k hk => by
  have : k < a.tmps.size := by rw [H.sz]; exact hk
  rw [Array.getElem?_eq_getElem this]; simp [Array.getD, this]
 refine ⟨a.tmps.getD b undef, a.tmps.getD (b + 3) undef, a.tmps.getD (b + 7) undef, a.tmps.getD (b + 10) undef, a.tmps.getD (b + 14) undef, a.tmps.getD (b + 17) undef, va, ka, vb, kb, vc, kc, B, ?_, o1, o2, o3, hB, hc, hk⟩
 have eq : ∀ (p q : Act), p.tmps = q.tmps → p.defers = q.defers → p = q := fun p q h1 h2 => by cases p; cases q; simp at h1 h2; rw [h1, h2]
 refine eq _ _ (Array.ext_getElem? fun k => ?_) (by rw [H.df]; unfold ru; simp only [Lv])
 rw [Fx hX hb]
 by_cases n10 : k = b + 21
 ·rw [if_pos n10, n10]; exact f4
 rw [if_neg n10]
 by_cases n9 : k = b + 20
 ·rw [if_pos n9, n9]; exact e3
 rw [if_neg n9]
 by_cases n8 : k = b + 17
 ·rw [if_pos n8, n8]; exact at_ _ (by omega)
 rw [if_neg n8]
 by_cases n7 : k = b + 14
 ·rw [if_pos n7, n7]; exact at_ _ (by omega)
 rw [if_neg n7]
 by_cases n6 : k = b + 13
 ·rw [if_pos n6, n6]; exact e2
 rw [if_neg n6]
 by_cases n5 : k = b + 10
 ·rw [if_pos n5, n5]; exact at_ _ (by omega)
 rw [if_neg n5]
 by_cases n4 : k = b + 7
 ·rw [if_pos n4, n4]; exact at_ _ (by omega)
 rw [if_neg n4]
 by_cases n3 : k = b + 6
 ·rw [if_pos n3, n3]; exact e1
 rw [if_neg n3]
 by_cases n2 : k = b + 3
 ·rw [if_pos n2, n2]; exact at_ _ (by omega)
 rw [if_neg n2]
 by_cases n1 : k = b
 ·rw [if_pos n1, n1]; exact at_ _ (by omega)
 rw [if_neg n1]
 by_cases n0 : k = X
 ·rw [if_pos n0, n0]; exact ev
 rw [if_neg n0]
 exact H.far k n0 n1 n2 n3 n4 n5 n6 n7 n8 n9 n10
end
theorem bG {α : Type} {z : Nat} {cells : α → List Value} (hz : ∀ x, (cells x).length = z) (hz0 : 0 < z) {w : World} {a : Option Addr} {n cap : Nat} {l : List α} (h : Rd z cells w (.slice a n cap) l) : ∀ ad, a = some ad → ∀ j u, (l.flatMap cells)[j]? = some u → w.cell? (ad.add j) = some u := by
 intro ad e j u hj
 subst e
 by_cases hn : l = []
 ·subst hn; simp at hj
 obtain ⟨a', cap', e1, h2⟩ := h
 obtain ⟨b, o, e2, _, hc⟩ := h2 hn
 simp only [Value.slice.injEq] at e1
 obtain ⟨rfl, _, _⟩ := e1
 simp only [Option.some.injEq] at e2
 subst e2
 have hlen := aY hz l
 have hj' := (q4L.1 hj).1
 rw [hlen] at hj'
 have hd : j / z < l.length := (Nat.div_lt_iff_lt_mul hz0).2 hj'
 have hm : j % z < z := Nat.mod_lt _ hz0
 obtain ⟨x, hx⟩ : ∃ x, l[j / z]? = some x := ⟨_, q4G hd⟩
 obtain ⟨y, hy⟩ : ∃ y, (cells x)[j % z]? = some y := ⟨_, q4G (by rw [hz]; exact hm)⟩
 have := flat_get cells hz l (j / z) x hx (j % z) y hy
 have hdm : j / z * z + j % z = j := by rw [Nat.mul_comm]; exact Nat.div_add_mod j z
 rw [hdm, hj] at this
 simp at this
 subst this
 have := hc (j / z) x hx (j % z) u hy
 rw [Nat.add_assoc, hdm] at this
 unfold Addr.add
 split
 ·rename_i q
  have q' : j = 0 := by simpa using q
  rw [q'] at this
  exact this
 ·exact this
theorem bg {α : Type} {cells : α → List Value} (h : ∀ x, ∀ u ∈ cells x, u.oneCell' = true) (l : List α) : ∀ u ∈ l.flatMap cells, u.oneCell' = true := by
 intro u hu
 obtain ⟨c, _, hc⟩ := List.mem_flatMap.1 hu
 exact h c u hc
theorem nQ (p : ZV) : ∀ u ∈ aJ p, u.oneCell' = true := by intro u hu; simp [aJ] at hu; rcases hu with rfl | rfl <;> rfl
theorem qA (p : Sx.Lk) : ∀ u ∈ aH p, u.oneCell' = true := by intro u hu; simp [aH] at hu; rcases hu with rfl | rfl <;> rfl
theorem IC {P : Program} {md : Region.Mode} {ops : Array Oper} {Q : Exit → Act → World → Prop} {S : World → Prop} {n : Nat} {l : Array Bool} {a : Act} {w : World} (h : ∀ (W : Nat → Array Bool → Act → World → Prop) (a0 : Act), a0 = a → (∀ n l a w, W n l a w → wpAnyH P md ops Q S n l a w) → (∀ n l a w, wpAnyH P md ops Q S n l a w → W n l a w) → W n l a0 w) : wpAnyH P md ops Q S n l a w :=
 h _ a rfl (fun _ _ _ _ h => h) (fun _ _ _ _ h => h)
theorem bU {α : Type} {z : Nat} {cells : α → List Value} {w : World} {a : Option Addr} {n cap : Nat} {l : List α} (h : Rd z cells w (.slice a n cap) l) : a = none → n = 0 := by
 intro e
 subst e
 obtain ⟨a', cap', e1, h2⟩ := h
 simp only [Value.slice.injEq] at e1
 obtain ⟨rfl, rfl, _⟩ := e1
 by_cases hn : l = []
 ·rw [hn]; rfl
 ·obtain ⟨b, o, e2, _⟩ := h2 hn
  cases e2
end
end Go.Proofs.YtkhlkohlccndgaaGreat
