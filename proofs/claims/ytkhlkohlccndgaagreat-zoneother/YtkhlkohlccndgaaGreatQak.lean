/- Part of the proof: Zw Zs SkE SkZ Zo SkL Zt Zc Zb SkT PaP. -/
import Derived.Test.YtkhlkohlccndgaaGreatQz
import Derived.Test.YtkhlkohlccndgaaGreatQaj
import Derived.Maps.OwnIn
import Derived.Maps.Views
import Derived.StringKeys
import Derived.Test.YtkhlkohlccndgaaGreatQai
import Derived.Test.YtkhlkohlccndgaaGreatQah
set_option linter.unusedVariables false
set_option linter.unusedSimpArgs false
set_option maxRecDepth 100000
set_option maxHeartbeats 16000000
namespace Go.Proofs.YtkhlkohlccndgaaGreat
section
open Go.RowKit Go.Shelf Go.Maps
attribute [local go_sem] Oper.semAt_some

def fM (l : List Tx.Bs) : DataW Unit := setOf (.agg []) (l.map Lit.string)
theorem tJ (l : List Tx.Bs) (x : Tx.Bs) : fM (l ++ [x]) = (fM l).put (.string x) (.agg []) := by
 unfold fM; rw [List.map_append]; exact setOf_snoc _ _ _
theorem H7 (x : Tx.Bs) : ∀ l : List Tx.Bs, l.any ((fun y : Lit => y.sameKey (.string x)) ∘ Lit.string) = l.contains x
 | [] => rfl
 | a :: r => by
   rw [List.any_cons, List.contains_cons, H7 x r]
   congr 1
   show (a == x) = (x == a)
   by_cases e : a = x
   ·subst e; rfl
   ·have e' : ¬ x = a := fun h => e h.symm
    rw [beq_eq_false_iff_ne.2 e, beq_eq_false_iff_ne.2 e']
theorem vv (l : List Tx.Bs) (x : Tx.Bs) : Maps.has (fM l) (.string x) = l.contains x := by
 unfold fM
 rw [has_setOf _ _ _ (fun y hy => by obtain ⟨_, _, rfl⟩ := List.mem_map.1 hy; trivial), List.any_map]
 exact H7 x _
theorem pG : Keyed Tryz.prog 9 := string_keyed Tryz.underlying9
theorem Dj (x : Tx.Bs) (h : x.length ≤ maxLen) : keyOf Tryz.prog 9 (ag x) = some (.string x) := Go.WideMaps.keyOf_string_mk Tryz.underlying9 (s := ⟨x.toArray⟩) (by simpa [ByteArray.size] using h)
def nN (l : List Tx.Bs) : Int := if l.Nodup then 0 else 6
theorem Dq {l : List Tx.Bs} {x : Tx.Bs} (h : l.Nodup) (hx : l.contains x = false) : (l ++ [x]).Nodup := by
 rw [List.nodup_append]
 refine ⟨h, List.nodup_cons.2 ⟨by simp, List.nodup_nil⟩, ?_⟩
 intro a ha b hb e
 simp at hb
 subst hb; subst e
 have : l.contains a = true := List.contains_iff_mem.2 ha
 rw [hx] at this; cases this
theorem vJ {l : List Tx.Bs} {x : Tx.Bs} (hx : l.contains x = true) : ¬ (l ++ [x]).Nodup := by
 intro h
 rw [List.nodup_append] at h
 exact h.2.2 x (List.contains_iff_mem.1 hx) x (by simp) rfl
theorem oH {l r : List Tx.Bs} (h : l <+: r) (hl : ¬ l.Nodup) : ¬ r.Nodup := fun hr => hl (hr.sublist h.sublist)
theorem yH {w W : World} {N D : Nat} {a : Act} {v : Int} {R : Ending → World → Prop} (h2 : a.tmps.getD 2 undef = .pointer (some ⟨N + 1, 0, none⟩)) (hd : a.defers = [{ target := .collected D, args := #[] }])
  (i1 : W.heap[N + 1]? = some (.cells #[.int .i64 v] 28)) (hD : N + 1 < D) (hN : w.heap.size ≤ N) (hK : W.heap[D]? = some (.deferred (some []))) (hB : Below w.heap.size w W) (hR : ∀ w', Below w.heap.size w w' → R (.returned (.int .i64 v)) w') :
  bodyPostM Fence.wide 4 Tryz.prog Tryz.f43 R .ret a W := by
 obtain ⟨tm, df⟩ := a
 dsimp only at h2 hd
 subst hd
 rw [Array.getD_eq_getD_getElem?] at h2
 have hX := belowK_b (w := w) (Nat.le_refl _) W D _ (.deferred none) (by omega) hK rfl rfl
 have j1 : (W.putObj D (.deferred none)).heap[N + 1]? = some (.cells #[.int .i64 v] 28) := (World.putObj_heap_other (by omega)).trans i1
 refine ⟨by simp, .inl ⟨_, _, rfl, run_takeDeferred hK, ?_⟩⟩
 have BX := hB.trans hX
 generalize W.putObj D (.deferred none) = X at j1 BX ⊢
 have y0 := (aa (aj (vs := [.int .i64 v]) j1) 0 rfl).1
 clear j1 i1 hK hB hX
 refine ⟨.int .i64 v, ?_, hR X BX⟩
 simp [results, Tryz.results43, go_sem, *]
theorem uK (zs : List Sx.Zn) (ls : List Sx.Lk) (xs : List ZV) (ra za la : Option Addr) (n1 rcap zcap lcap : Nat) (w : World) (h2 : jr w (.slice za xs.length zcap) zs xs) (h3 : fe w (.slice la ls.length lcap) ls)
  (hx : xs.length ≤ 10000) (hl : ls.length ≤ 10000) (hs : ∀ s ∈ dF zs ls, s.length ≤ maxLen) :
  Calls Tryz.prog 43 #[.agg #[.slice ra n1 rcap, .slice za xs.length zcap, .slice la ls.length lcap]] w fun e w' => e = .returned (.int .i64 (nN (dF zs ls))) ∧ Below w.heap.size w w' := by
 have hmm := @run_makeMap Tryz.prog
 refine (callsIn_wide (n := 4)).1 ?_
 refine callsIn_of_wp_marks Tryz.func43 rfl trivial ?_ rfl
 simp only [Tryz.ntmps43, List.size_toArray, List.length_cons, List.length_nil, Nat.reduceAdd, Nat.reduceSub, Array.replicate_succ, Array.replicate_zero, List.push_toArray, List.append_toArray, List.nil_append, List.cons_append]
 gi_wp2_with fail
 refine ⟨trivial, (callsIn_wide.2 (Gj ra za la n1 xs.length ls.length rcap zcap lcap _)).mono ?_⟩
 rintro e w6 ⟨rfl, rfl⟩
 gi_wp2
 obtain ⟨N, hN⟩ : ∃ N, w.heap.size = N := ⟨_, rfl⟩
 obtain ⟨V, hV⟩ : ∃ V, (((((w.alloc (.cells #[.slice ra n1 rcap, .slice za xs.length zcap, .slice la ls.length lcap] 26)).alloc (.cells #[.int .i64 0] 28)).alloc (.map #[] 0)).alloc (.cells #[.map (some (w.heap.size + 1 + 1))] 154)).alloc (.cells #[.slice ra n1 rcap, .slice za xs.length zcap, .slice la ls.length lcap] 26)) = V := ⟨_, rfl⟩
 rw [hV]
 have vS : V.heap.size = N + 5 := by rw [← hV]; simp [hN]
 have vr : V.heap[N + 1]? = some (.cells #[.int .i64 0] 28) := by
  rw [← hV, Below.heap_alloc _ _ _ (by simp; omega), Below.heap_alloc _ _ _ (by simp; omega), Below.heap_alloc _ _ _ (by simp; omega)]
  have := World.alloc_heap_new (w.alloc (.cells #[.slice ra n1 rcap, .slice za xs.length zcap, .slice la ls.length lcap] 26)) (.cells #[.int .i64 0] 28)
  simp only [World.size_alloc, hN] at this
  exact this
 have vm : V.ownsMap Tryz.prog 9 (unitElem (H := Unit)) (N + 1 + 1) 0 (fM []) := by
  have := World.ownsMap_made ((w.alloc (.cells #[.slice ra n1 rcap, .slice za xs.length zcap, .slice la ls.length lcap] 26)).alloc (.cells #[.int .i64 0] 28)) Tryz.prog 9 (unitElem (H := Unit))
  simp only [World.size_alloc, hN] at this
  rw [← hV]
  exact (this.alloc _).alloc _
 have vb : V.heap[N + 1 + 1 + 1]? = some (.cells #[.map (some (N + 1 + 1))] 154) := by
  rw [← hV, Below.heap_alloc _ _ _ (by simp; omega)]
  have := World.alloc_heap_new (((w.alloc (.cells #[.slice ra n1 rcap, .slice za xs.length zcap, .slice la ls.length lcap] 26)).alloc (.cells #[.int .i64 0] 28)).alloc (.map #[] 0)) (.cells #[.map (some (w.heap.size + 1 + 1))] 154)
  simp only [World.size_alloc, hN] at this ⊢
  exact this
 have vB : Below w.heap.size w V := by
  rw [← hV]; exact (((((q4B _ w).alloc (Nat.le_refl _) _).alloc (by simp) _).alloc (by simp; omega) _).alloc (by simp; omega) _).alloc (by simp; omega) _
 have XV : ak V (N + 1 + 1 + 1 + 1) [.slice ra n1 rcap, .slice za xs.length zcap, .slice la ls.length lcap] := by
  have := aD ((((w.alloc (.cells #[.slice ra n1 rcap, .slice za xs.length zcap, .slice la ls.length lcap] 26)).alloc (.cells #[.int .i64 0] 28)).alloc (.map #[] 0)).alloc (.cells #[.map (some (w.heap.size + 1 + 1))] 154)) [.slice ra n1 rcap, .slice za xs.length zcap, .slice la ls.length lcap] 26
  simp only [World.size_alloc, hN] at this
  rw [← hV, hN]
  exact this
 have HS := hid hs
 have HNL : Hid ((dF zs ls).length ≤ 20000) := by
  show _ ≤ _
  have := lh h2
  unfold dF
  rw [List.length_append, List.length_map, List.length_map]
  omega
 have HNN := hid hN
 clear hV hs
 simp only [hN]
 refine mE rfl (by omega) (gf := 157) (lb := #[.pointer (some ⟨N + 1 + 1 + 1 + 1, 0, none⟩)]) rfl trivial (enters_of Tryz.func157 (by kernel_rfl) rfl)
  (Gl 3 (N + 1 + 1 + 1 + 1) (by omega) xs zs ls za la zcap lcap w V h2 h3 hx hl (aa XV 1 rfl).1 (aa XV 2 rfl).1 XV.1 vB)
  kpb_t (I7 (by omega) (by omega)) (q4B _ _) (fun _ => rfl)
  (fun (pre : List Tx.Bs) W => (W.heap[N + 1]? = some (.cells #[.int .i64 0] 28) ∧ W.heap[N + 1 + 1 + 1]? = some (.cells #[.map (some (N + 1 + 1))] 154)) ∧ W.ownsMap Tryz.prog 9 (unitElem (H := Unit)) (N + 1 + 1) pre.length (fM pre) ∧ Below w.heap.size w W ∧ pre.Nodup)
  (fun c (pre : List Tx.Bs) W => c = .ret ∧ W.heap[N + 1]? = some (.cells #[.int .i64 6] 28) ∧ Below w.heap.size w W ∧ ¬ pre.Nodup)
  (OwnFrom.and (OwnFrom.and (bX.own (aV (by omega))) (bX.own (aV (by omega)))) (OwnFrom.and (fun s W W' row hs hg hr => hs.kept hg (fun e => by have := (hr _ e.symm).1; omega)) (OwnFrom.and (ownFrom_below (Nat.le_refl _) (by omega)) (bX.own (bN _)))))
  (fun c => OwnFrom.and (bX.own (bN _)) (OwnFrom.and (bX.own (aV (by omega))) (OwnFrom.and (ownFrom_below (Nat.le_refl _) (by omega)) (bX.own (bN _)))))
  ⟨⟨vr, vb⟩, vm, vB, List.nodup_nil⟩
  (fun x a' W => a' = { tmps := #[.agg #[.slice ra n1 rcap, .slice za xs.length zcap, .slice la ls.length lcap], .pointer (some ⟨N, 0, none⟩), .pointer (some ⟨N + 1, 0, none⟩), .pointer (some ⟨N + 1 + 1 + 1, 0, none⟩), ag x, undef, undef, .map (some (N + 1 + 1)), .agg #[.slice ra n1 rcap, .slice za xs.length zcap, .slice la ls.length lcap], .func (.func 157) #[] #[.pointer (some ⟨N + 1 + 1 + 1 + 1, 0, none⟩)], ag x, undef, undef, undef, undef, undef, undef, undef, undef, undef, undef], defers := [] })
  ?hAx ?assign ?body ?done ?stop
 case hAx =>
  intro x a' _ X Y row q hg hr
  exact q
 case assign =>
  rintro l pre x W K hI sz hK
  have R := hid (hK { tmps := #[.agg #[.slice ra n1 rcap, .slice za xs.length zcap, .slice la ls.length lcap], .pointer (some ⟨N, 0, none⟩), .pointer (some ⟨N + 1, 0, none⟩), .pointer (some ⟨N + 1 + 1 + 1, 0, none⟩), ag x, undef, undef, .map (some (N + 1 + 1)), .agg #[.slice ra n1 rcap, .slice za xs.length zcap, .slice la ls.length lcap], .func (.func 157) #[] #[.pointer (some ⟨N + 1 + 1 + 1 + 1, 0, none⟩)], ag x, undef, undef, undef, undef, undef, undef, undef, undef, undef, undef], defers := [] } W ((KeepsOthers.refl _).from _) ⟨q4B _ _, fun _ => rfl⟩ hI rfl)
  clear hK hI
  gi_wp2
  exact R.out
 case body =>
  rintro l pre x a' W hl' ⟨r, hr⟩ ⟨⟨i0, i1⟩, im, iB, iP⟩ rfl hpx sz
  rw [vS] at sz
  have hxl := HS.out x (fI hpx)
  have HK := hid (Dj x hxl)
  have hpl : pre.length < 20000 := by have h1 := hpx.length_le; have := HNL.out; rw [List.length_append] at h1; simp at h1; omega
  obtain ⟨cb, fb⟩ := aa (aj (vs := [.map (some (N + 1 + 1))]) i1) 0 rfl
  have lb := (q4A.1 i1).1
  obtain ⟨cr, fr⟩ := aa (aj (vs := [.int .i64 0]) i0) 0 rfl
  have lr := (q4A.1 i0).1
  have HO := hid im
  have I0 := hid i0
  have I1 := hid i1
  have IB := hid iB
  have IP := hid iP
  have SZ := hid sz
  have HH := vv pre x
  obtain ⟨b, hb⟩ : ∃ b, pre.contains x = b := ⟨_, rfl⟩
  rw [hb] at HH
  have HBB := hid hb
  clear im i0 i1 iB iP hr sz hb hpx
  cases b
  case true =>
   gi_wp2_with (gi_at_lookup; refine wpListIn_lookup_own_unit _ rfl _ _ 154 rfl 9 158 pG Tryz.underlying154 (Tryz.zeroValue158 _) (N + 1 + 1) pre.length (fM pre) rfl HO.out _ _ rfl HK.out ?_; rw [HH])
   have P1 := rG (.int .i64 6) I0.out
   exact ⟨(KeepsOthers.trans (KeepsOthers.setCell _ _ _) (KeepsOthers.alloc _ _)).from _, rfl, (Below.heap_alloc _ _ _ (by have := SZ.out; simp; omega)).trans P1,
    (aR IB.out (by rw [HNN.out]; omega) 0 _).alloc (by have := IB.out.size; simp; omega) _, vJ HBB.out⟩
  case false =>
   gi_wp2_with (first | (gi_at_lookup; refine wpListIn_lookup_own_unit _ rfl _ _ 154 rfl 9 158 pG Tryz.underlying154 (Tryz.zeroValue158 _) (N + 1 + 1) pre.length (fM pre) rfl HO.out _ _ rfl HK.out ?_; rw [HH]) | (gi_at_mapUpdate; refine wpListIn_mapUpdate_own _ rfl _ _ _ 154 rfl 9 158 pG Tryz.underlying154 (unitElem (H := Unit)) (N + 1 + 1) pre.length (fM pre) rfl (HO.out.alloc _) (by unfold maxLen; omega) _ _ _ rfl rfl HK.out _ [] unitElem_mk ?_; intro w9 hown9 hgrow9))
   have AB : Hid (Below w.heap.size w (W.alloc (.cells #[] 158))) := IB.out.alloc (Nat.le_trans IB.out.size (Nat.le_refl _)) _
   have gs := hgrow9.size
   simp only [World.size_alloc] at gs
   have sz' := SZ.out
   have a0 : (W.alloc (.cells #[] 158)).heap[N + 1]? = some (.cells #[.int .i64 0] 28) := (Below.heap_alloc _ _ _ (by omega)).trans I0.out
   have a1 : (W.alloc (.cells #[] 158)).heap[N + 1 + 1 + 1]? = some (.cells #[.map (some (N + 1 + 1))] 154) := (Below.heap_alloc _ _ _ (by omega)).trans I1.out
   have b9 : Below (N + 1 + 1) (W.alloc (.cells #[] 158)) w9 := ⟨hgrow9.os, hgrow9.tape, hgrow9.output, hgrow9.size, fun k hk => hgrow9.block k (by simp; omega) (by intro e; injection e with e; omega)⟩
   refine ⟨((KeepsOthers.alloc _ _).from _).trans (KeepsFrom.of_grownBy hgrow9 (by intro j e; injection e with e; rw [vS]; omega)), ⟨?_, ?_⟩, ⟨?_, ?_⟩, ?_, ?_, Dq IP.out HBB.out⟩
   ·exact (((q4B W.heap.size W).alloc (Nat.le_refl _) _).mono (by rw [HNN.out]; omega)).trans (b9.mono (by rw [HNN.out]; omega))
   ·intro q
    exact (hgrow9.block _ (by simp; omega) (by intro e; injection e with e; omega)).trans (Below.heap_alloc _ _ _ q)
   ·exact (hgrow9.block _ (by simp; omega) (by intro e; injection e with e; omega)).trans a0
   ·exact (hgrow9.block _ (by simp; omega) (by intro e; injection e with e; omega)).trans a1
   ·rw [List.length_append, tJ]; exact hown9
   ·exact AB.out.trans (b9.mono (by rw [HNN.out]; omega))
 case done =>
  rintro D ys W hD rfl ⟨⟨i0, i1⟩, im, iB, iP⟩ hK
  rw [vS] at hD
  obtain ⟨cr, fr⟩ := aa (aj (vs := [.int .i64 0]) i0) 0 rfl
  have E := hid (yH (w := w) (W := W.setCell ⟨N + 1, 0, none⟩ (.int .i64 0)) (N := N) (D := D) (v := 0) (R := fun e w' => e = .returned (.int .i64 (nN (dF zs ls))) ∧ Below w.heap.size w w') (a := { tmps := #[.agg #[.slice ra n1 rcap, .slice za xs.length zcap, .slice la ls.length lcap], .pointer (some ⟨N, 0, none⟩), .pointer (some ⟨N + 1, 0, none⟩), .pointer (some ⟨N + 1 + 1 + 1, 0, none⟩), undef, undef, undef, .map (some (N + 1 + 1)), .agg #[.slice ra n1 rcap, .slice za xs.length zcap, .slice la ls.length lcap], .func (.func 157) #[] #[.pointer (some ⟨N + 1 + 1 + 1 + 1, 0, none⟩)], undef, undef, undef, undef, undef, undef, undef, undef, undef, undef, undef], defers := [{ target := .collected D, args := #[] }] }) rfl rfl (rG _ i0) (by omega) (by omega) ((Below.heap_setCell _ _ _ _ (by simp; omega)).trans hK) (aR iB (by omega) 0 _) (fun w' hb => ⟨by unfold nN; rw [if_pos iP], hb⟩))
  clear vr vm vb vB vS XV i0 i1 im iB iP hK
  gi_wp2
  exact E.out
 case stop =>
  rintro D c pre W hD hpre ⟨rfl, i0, iB, iP⟩ hK
  rw [vS] at hD
  have E := hid (yH (w := w) (N := N) (D := D) (v := 6) (R := fun e w' => e = .returned (.int .i64 (nN (dF zs ls))) ∧ Below w.heap.size w w') (a := { tmps := #[.agg #[.slice ra n1 rcap, .slice za xs.length zcap, .slice la ls.length lcap], .pointer (some ⟨N, 0, none⟩), .pointer (some ⟨N + 1, 0, none⟩), .pointer (some ⟨N + 1 + 1 + 1, 0, none⟩), undef, undef, undef, .map (some (N + 1 + 1)), .agg #[.slice ra n1 rcap, .slice za xs.length zcap, .slice la ls.length lcap], .func (.func 157) #[] #[.pointer (some ⟨N + 1 + 1 + 1 + 1, 0, none⟩)], undef, undef, undef, undef, undef, undef, undef, undef, undef, undef, undef], defers := [{ target := .collected D, args := #[] }] }) rfl rfl i0 (by omega) (by omega) hK iB (fun w' hb => ⟨by unfold nN; rw [if_neg (oH hpre iP)], hb⟩))
  clear vr vm vb vB vS XV i0 iB iP hK
  gi_wp2
  exact E.out
end
section
open Go.RowKit Go.Shelf Go.Maps
attribute [local go_sem] Oper.semAt_some

theorem oK {H : Type} {F : Fence} {nF : Nat} {P : Program} (w : World) {ops : Array Oper} {rest : List Oper} {o : Oper} {a : Act} {Q : Exit → Act → World → Prop}
  (hg : o.guard = none) (m x v : Operand) (t : TypeId) (hop : o.op = Op.insert t m x v)
  (k e : TypeId) (K : Keyed P k) (ht : P.underlying t = some (.map k e)) (R : Value → Option (DataW H × List MemPlace)) (b n : Nat) (D : DataW H)
  (hm : a.eval m = .map (some b)) (hown : w.ownsMap P k R b n D) (hn : n < maxLen) (key val : Value) (kl : Lit) (hx : a.eval x = key) (hv : a.eval v = val) (hkey : keyOf P k key = some kl)
  (d : DataW H) (ps : List MemPlace) (hval : R val = some (d, ps))
  (hK : ∀ w', w'.ownsMap P k R b (n + 1) (D.put kl d) → w.grownBy w' (some b) → wpListIn F nF P ops Q rest (a.put o.dst undef) w') :
  wpListIn F nF P ops Q (o :: rest) a w := by
 refine wpListIn_plain hg fun K' hK' => ?_
 obtain ⟨w', hrun, r1, r2⟩ := hown.update K ht hn hkey hval
 unfold Oper.wpIn
 refine ⟨by simp [Oper.about, hop], ?_⟩
 rw [Oper.semAt_plain F _ _ (by rw [hop]; intro c hc'; cases hc')]
 simp [execOp, hop, hm, hx, hv, hrun, Result.andThen]
 exact hK' _ _ (hK w' r1 r2)

/- what is wrong with the rules that eras name: the first of what rule.Times answers -/
def iR (rs : List Sx.Rl) : List Sx.Er → Int
 | [] => 0
 | e :: r => if e.rules = [] ∨ Sx.bM rs e.rules e.shift = 0 then iR rs r else Sx.bM rs e.rules e.shift
theorem iT {rs : List Sx.Rl} (e : Sx.Er) (r : List Sx.Er) : iR rs (e :: r) = if e.rules = [] ∨ Sx.bM rs e.rules e.shift = 0 then iR rs r else Sx.bM rs e.rules e.shift := rfl
theorem uA {rs : List Sx.Rl} : ∀ {l : List Sx.Er} (r : List Sx.Er), iR rs l = 0 → iR rs (l ++ r) = iR rs r
 | [], _, _ => rfl
 | e :: l, r, h => by
   rw [List.cons_append]
   rw [iT] at h ⊢
   split
   ·rename_i q; rw [if_pos q] at h; exact uA r h
   ·rename_i q; rw [if_neg q] at h; exact absurd (Or.inr h) q
theorem xA {rs : List Sx.Rl} : ∀ {l : List Sx.Er} (r : List Sx.Er), iR rs l ≠ 0 → iR rs (l ++ r) = iR rs l
 | [], _, h => absurd rfl h
 | e :: l, r, h => by
   rw [List.cons_append]
   rw [iT] at h
   rw [iT, iT]
   split
   ·rename_i q; rw [if_pos q] at h; exact xA r h
   ·rfl
theorem uB {rs : List Sx.Rl} : ∀ {l : List Sx.Er}, iR rs l = 0 → ∀ e ∈ l, e.rules = [] ∨ Sx.bM rs e.rules e.shift = 0
 | [], _, _, he => by cases he
 | a :: l, h, e, he => by
   rw [iT] at h
   split at h
   ·rename_i q
    rcases List.mem_cons.1 he with rfl | he
    ·exact q
    ·exact uB h e he
   ·rename_i q; exact absurd (Or.inr h) q
theorem mR {rs : List Sx.Rl} {pre : List Sx.Er} {e : Sx.Er} (h : iR rs pre = 0) (he : e.rules = [] ∨ Sx.bM rs e.rules e.shift = 0) : iR rs (pre ++ [e]) = 0 := by
 rw [uA _ h, iT]; rw [if_pos he]; rfl
theorem wQ {rs : List Sx.Rl} {pre : List Sx.Er} {e : Sx.Er} (h : iR rs pre = 0) (he : e.rules ≠ []) (hE : Sx.bM rs e.rules e.shift ≠ 0) : iR rs (pre ++ [e]) = Sx.bM rs e.rules e.shift := by
 rw [uA _ h, iT]; rw [if_neg (by intro q; rcases q with q | q; exact he q; exact hE q)]
theorem Ah {rs : List Sx.Rl} {pre l : List Sx.Er} (h : pre <+: l) (hp : iR rs pre ≠ 0) : iR rs l = iR rs pre := by
 obtain ⟨r, rfl⟩ := h; exact xA r hp
/- the names seen: those of the eras before, and the empty one -/
def o7 (L : List Tx.Bs) (pre : List Sx.Er) : Prop := ∀ s, s ∈ L ↔ s = [] ∨ ∃ e ∈ pre, e.rules = s
theorem Jt : o7 [[]] [] := by intro s; simp
theorem GN {L : List Tx.Bs} {pre : List Sx.Er} {e : Sx.Er} (h : o7 L pre) (he : e.rules ∈ L) : o7 L (pre ++ [e]) := by
 intro s
 rw [h s]
 constructor
 ·rintro (q | ⟨x, hx, q⟩)
  ·exact .inl q
  ·exact .inr ⟨x, List.mem_append_left _ hx, q⟩
 ·rintro (q | ⟨x, hx, q⟩)
  ·exact .inl q
  ·rcases List.mem_append.1 hx with hx | hx
   ·exact .inr ⟨x, hx, q⟩
   ·rw [List.mem_singleton] at hx
    subst hx; subst q
    exact (h _).1 he
theorem GQ {L : List Tx.Bs} {pre : List Sx.Er} {e : Sx.Er} (h : o7 L pre) : o7 (L ++ [e.rules]) (pre ++ [e]) := by
 intro s
 rw [List.mem_append, h s, List.mem_singleton]
 constructor
 ·rintro ((q | ⟨x, hx, q⟩) | q)
  ·exact .inl q
  ·exact .inr ⟨x, List.mem_append_left _ hx, q⟩
  ·exact .inr ⟨e, by simp, q.symm⟩
 ·rintro (q | ⟨x, hx, q⟩)
  ·exact .inl (.inl q)
  ·rcases List.mem_append.1 hx with hx | hx
   ·exact .inl (.inr ⟨x, hx, q⟩)
   ·rw [List.mem_singleton] at hx
    subst hx
    exact .inr q.symm
theorem Fv {H : Type} {P : Program} {k : TypeId} {R : Value → Option (DataW H × List MemPlace)} {w w' : World} {b n : Nat} {D : DataW H} (h : w.ownsMap P k R b n D) (hb : Below w.heap.size w w') : w'.ownsMap P k R b n D :=
 h.kept (row := none) ⟨hb.os, hb.tape, hb.output, hb.size, fun j hj _ => hb.block j hj⟩ (by simp)
theorem Ev {w W : World} {N D : Nat} {a : Act} {v : Int} {R : Ending → World → Prop} (h2 : a.tmps.getD 2 undef = .pointer (some ⟨N + 1, 0, none⟩)) (hd : a.defers = [{ target := .collected D, args := #[] }])
  (i1 : W.heap[N + 1]? = some (.cells #[.int .i64 v] 28)) (hD : N + 1 < D) (hN : w.heap.size ≤ N) (hK : W.heap[D]? = some (.deferred (some []))) (hB : Below w.heap.size w W) (hR : ∀ w', Below w.heap.size w w' → R (.returned (.int .i64 v)) w') :
  bodyPostM Fence.wide 4 Tryz.prog Tryz.f45 R .ret a W := by
 obtain ⟨tm, df⟩ := a
 dsimp only at h2 hd
 subst hd
 rw [Array.getD_eq_getD_getElem?] at h2
 have hX := belowK_b (w := w) (Nat.le_refl _) W D _ (.deferred none) (by omega) hK rfl rfl
 have j1 : (W.putObj D (.deferred none)).heap[N + 1]? = some (.cells #[.int .i64 v] 28) := (World.putObj_heap_other (by omega)).trans i1
 refine ⟨by simp, .inl ⟨_, _, rfl, run_takeDeferred hK, ?_⟩⟩
 have BX := hB.trans hX
 generalize W.putObj D (.deferred none) = X at j1 BX ⊢
 have y0 := (aa (aj (vs := [.int .i64 v]) j1) 0 rfl).1
 clear j1 i1 hK hB hX
 refine ⟨.int .i64 v, ?_, hR X BX⟩
 simp [results, Tryz.results45, go_sem, *]
theorem uJ (zs : List Sx.Zn) (rs : List Sx.Rl) (xs : List ZV) (ra za la : Option Addr) (n3 rcap zcap lcap : Nat) (w : World) (h1 : bY w (.slice ra rs.length rcap) rs) (h2 : jr w (.slice za xs.length zcap) zs xs)
  (hx : xs.length ≤ 10000) (hes : ∀ p ∈ xs, p.z.eras.length ≤ 10000) (hn : (aS xs).length ≤ 100000) (hs : ∀ r ∈ rs, r.name.length ≤ maxLen ∧ r.letter.length ≤ maxLen) (hr : ∀ e ∈ aS xs, e.rules.length ≤ maxLen)
  (hz : ∀ e ∈ aS xs, ∀ e' ∈ aS xs, e.rules = e'.rules → Sx.bM rs e.rules e.shift = Sx.bM rs e'.rules e'.shift) :
  Calls Tryz.prog 45 #[.agg #[.slice ra rs.length rcap, .slice za xs.length zcap, .slice la n3 lcap]] w fun e w' => e = .returned (.int .i64 (iR rs (aS xs))) ∧ Below w.heap.size w w' := by
 have hmm := @run_makeMap Tryz.prog
 have H1 := hid h1
 have H2 := hid h2
 have HS := hid hs
 have HR := hid hr
 have HZ := hid hz
 have HX := hid hx
 have HES := hid hes
 have HN := hid hn
 clear h1 h2 hs hr hz hx hes hn
 have HK0 := hid (Dj [] (by simp))
 have HO0 : Hid ((((w.alloc (.cells #[.slice ra rs.length rcap, .slice za xs.length zcap, .slice la n3 lcap] 26)).alloc (.cells #[.int .i64 0] 28)).alloc (.map #[] 0)).ownsMap Tryz.prog 9 (unitElem (H := Unit)) (w.heap.size + 1 + 1) 0 (fM [])) := by
  have := World.ownsMap_made ((w.alloc (.cells #[.slice ra rs.length rcap, .slice za xs.length zcap, .slice la n3 lcap] 26)).alloc (.cells #[.int .i64 0] 28)) Tryz.prog 9 (unitElem (H := Unit))
  simp only [World.size_alloc] at this
  exact this
 have X0 := hid (aM (aM (aD w [.slice ra rs.length rcap, .slice za xs.length zcap, .slice la n3 lcap] 26) (.cells #[.int .i64 0] 28)) (.map #[] 0))
 have E0 : Hid ((((w.alloc (.cells #[.slice ra rs.length rcap, .slice za xs.length zcap, .slice la n3 lcap] 26)).alloc (.cells #[.int .i64 0] 28)).alloc (.map #[] 0)).heap[w.heap.size + 1]? = some (.cells #[.int .i64 0] 28)) := by
  show _ = _
  rw [Below.heap_alloc _ _ _ (by simp)]
  have := World.alloc_heap_new (w.alloc (.cells #[.slice ra rs.length rcap, .slice za xs.length zcap, .slice la n3 lcap] 26)) (.cells #[.int .i64 0] 28)
  rwa [World.size_alloc] at this
 have S0 : Hid ((((w.alloc (.cells #[.slice ra rs.length rcap, .slice za xs.length zcap, .slice la n3 lcap] 26)).alloc (.cells #[.int .i64 0] 28)).alloc (.map #[] 0)).heap[w.heap.size]? = some (.cells #[.slice ra rs.length rcap, .slice za xs.length zcap, .slice la n3 lcap] 26)) := by
  show _ = _
  rw [Below.heap_alloc _ _ _ (by simp; omega), Below.heap_alloc _ _ _ (by simp)]
  exact World.alloc_heap_new w _
 have B0 : Hid (Below w.heap.size w (((w.alloc (.cells #[.slice ra rs.length rcap, .slice za xs.length zcap, .slice la n3 lcap] 26)).alloc (.cells #[.int .i64 0] 28)).alloc (.map #[] 0))) := ((((q4B _ w).alloc (Nat.le_refl _) _).alloc (by simp) _).alloc (by simp; omega) _)
 refine (callsIn_wide (n := 4)).1 ?_
 refine callsIn_of_wp_marks Tryz.func45 rfl trivial ?_ rfl
 simp only [Tryz.ntmps45, List.size_toArray, List.length_cons, List.length_nil, Nat.reduceAdd, Nat.reduceSub, Array.replicate_succ, Array.replicate_zero, List.push_toArray, List.append_toArray, List.nil_append, List.cons_append]
 gi_wp2_with (first
  | (refine oK _ rfl _ _ _ 154 rfl 9 158 pG Tryz.underlying154 (unitElem (H := Unit)) (w.heap.size + 1 + 1) 0 (fM []) rfl HO0.out (by unfold maxLen; omega) _ _ _ rfl rfl HK0.out _ [] unitElem_mk ?_; intro w1 hown1 hgrow1; have X1 := hid (aL X0.out hgrow1 (by omega)); obtain ⟨x1, f1⟩ := aa X1.out 1 rfl; have sx := X1.out.1)
  | fail)
 refine ⟨trivial, (callsIn_wide.2 (qd za xs.length zcap _)).mono ?_⟩
 rintro e w6 ⟨rfl, rfl⟩
 obtain ⟨N, hN⟩ : ∃ N, w.heap.size = N := ⟨_, rfl⟩
 obtain ⟨N1, hN1⟩ : ∃ N1, w1.heap.size = N1 := ⟨_, rfl⟩
 rw [hN] at hown1 hgrow1 X1 x1 f1 sx
 rw [hN] at B0 E0 S0
 have gs := hgrow1.size
 simp only [World.size_alloc, hN, hN1] at gs
 obtain ⟨V, hV⟩ : ∃ V, (w1.alloc (.cells #[.map (some (N + 1 + 1))] 154)).alloc (.cells #[.slice za xs.length zcap] 23) = V := ⟨_, rfl⟩
 have hsz : (w1.alloc (.cells #[.map (some (N + 1 + 1))] 154)).heap.size = N1 + 1 := by simp [hN1]
 have vS : V.heap.size = N1 + 2 := by rw [← hV]; simp [hN1]
 have k1 : ∀ j, j < N1 → V.heap[j]? = w1.heap[j]? := fun j hj => by rw [← hV, Below.heap_alloc _ _ _ (by simp; omega), Below.heap_alloc _ _ _ (by omega)]
 have vr : V.heap[N + 1]? = some (.cells #[.int .i64 0] 28) := (k1 _ (by omega)).trans ((hgrow1.block _ (by simp; omega) (by intro e; injection e with e; omega)).trans E0.out)
 have vs : V.heap[N]? = some (.cells #[.slice ra rs.length rcap, .slice za xs.length zcap, .slice la n3 lcap] 26) := (k1 _ (by omega)).trans ((hgrow1.block _ (by simp; omega) (by intro e; injection e with e; omega)).trans S0.out)
 have vb : V.heap[N1]? = some (.cells #[.map (some (N + 1 + 1))] 154) := by
  rw [← hV, Below.heap_alloc _ _ _ (by simp; omega), ← hN1]
  exact World.alloc_heap_new w1 _
 have vm : V.ownsMap Tryz.prog 9 (unitElem (H := Unit)) (N + 1 + 1) 1 (fM [[]]) := by
  rw [← hV]
  exact (hown1.alloc _).alloc _
 have vc : V.cell? ⟨N1 + 1, 0, none⟩ = some (.slice za xs.length zcap) := by
  have := aa (aD (w1.alloc (.cells #[.map (some (N + 1 + 1))] 154)) [.slice za xs.length zcap] 23) 0 rfl
  rw [hsz] at this
  rw [← hV]; exact this.1
 have vB : Below N w V := by
  rw [← hV]
  exact ((B0.out.grown hgrow1 (by have := B0.out.size; omega) (fun j hj => by cases hj; omega)).alloc (by omega) _).alloc (by simp; omega) _
 have HNN := hid hN
 simp only [hN, hN1, hsz, hV]
 clear hown1 hgrow1 X1 x1 f1 sx B0 E0 S0 X0 HO0 k1 hV hsz
 gi_wp2
 refine mE rfl (by omega) (gf := 110) (lb := #[.pointer (some ⟨N1 + 1, 0, none⟩)]) rfl trivial (enters_of Tryz.func110 (by kernel_rfl) rfl)
  (uQ (KpB N (N1 + 1)) 3 (N1 + 1) (by omega) xs zs za zcap V (fun W A h1 h2 => fK H2.out (by rw [HNN.out]; exact vB.trans ((h1.mono (by omega)).trans h2.1))) HX.out HES.out vc (by omega) (fun W _ => ⟨q4B _ _, fun _ => rfl⟩) (fun _ _ _ a b => kpb_t a b) (fun W A o h1 h2 => ⟨(q4B _ _).alloc (Nat.le_trans (by omega) (Nat.le_trans h1.size h2.1.size)) _, fun q => Below.heap_alloc _ _ _ q⟩))
  kpb_t (I7 (by omega) (by omega)) (q4B _ _) (fun _ => rfl)
  (fun (pre : List Sx.Er) W => (W.heap[N + 1]? = some (.cells #[.int .i64 0] 28) ∧ W.heap[N1]? = some (.cells #[.map (some (N + 1 + 1))] 154) ∧ W.heap[N]? = some (.cells #[.slice ra rs.length rcap, .slice za xs.length zcap, .slice la n3 lcap] 26)) ∧ (∃ L, W.ownsMap Tryz.prog 9 (unitElem (H := Unit)) (N + 1 + 1) (pre.length + 1) (fM L) ∧ o7 L pre) ∧ Below N w W ∧ iR rs pre = 0)
  (fun c (pre : List Sx.Er) W => c = .ret ∧ W.heap[N + 1]? = some (.cells #[.int .i64 (iR rs pre)] 28) ∧ Below N w W ∧ iR rs pre ≠ 0)
  (OwnFrom.and (OwnFrom.and (bX.own (aV (by omega))) (OwnFrom.and (bX.own (aV (by omega))) (bX.own (aV (by omega))))) (OwnFrom.and (fun s W W' row hs hg hr => by obtain ⟨L, hm, hL⟩ := hs; exact ⟨L, hm.kept hg (fun e => by have := (hr _ e.symm).1; omega), hL⟩) (OwnFrom.and (ownFrom_below (by omega) (by omega)) (bX.own (bN _)))))
  (fun c => OwnFrom.and (bX.own (bN _)) (OwnFrom.and (fun s W W' row hs hg hr => (grownBy_keeps_cells hg (fun r e => (hr r e).2) hs rfl).trans hs) (OwnFrom.and (ownFrom_below (by omega) (by omega)) (bX.own (bN _)))))
  ⟨⟨vr, vb, vs⟩, ⟨[[]], vm, Jt⟩, vB, rfl⟩
  (fun e a' W => ∃ Bx, N1 + 1 < Bx ∧ W.heap[Bx]? = some (.cells (ax e).toArray 67 (0, 0)) ∧ a' = { tmps := #[.agg #[.slice ra rs.length rcap, .slice za xs.length zcap, .slice la n3 lcap], .pointer (some ⟨N, 0, none⟩), .pointer (some ⟨N + 1, 0, none⟩), .pointer (some ⟨N1, 0, none⟩), .pointer (some ⟨Bx, 0, none⟩), undef, undef, undef, undef, .map (some (N + 1 + 1)), .agg #[], .map (some (N + 1 + 1)), .pointer (some ⟨N, 1, none⟩), .slice za xs.length zcap, .func (.func 110) #[] #[.pointer (some ⟨N1 + 1, 0, none⟩)], gZ e, undef, undef, undef, undef, undef, undef, undef, undef, undef, undef, undef, undef, undef, undef, undef, undef, undef, undef, undef, undef, undef, undef, undef, undef, undef], defers := [] })
  ?hAx ?assign ?body ?done ?stop
 case hAx =>
  rintro e a' _ X Y row ⟨Bx, q1, q2, q3⟩ hg hr
  refine ⟨Bx, q1, ?_, q3⟩
  rw [hg.block Bx (q4A.1 q2).1 (fun e => by obtain ⟨_, o, ho, hc⟩ := hr Bx e.symm; rw [q2] at ho; cases ho; simp [Obj.isCells] at hc)]
  exact q2
 case assign =>
  rintro l pre e W K ⟨⟨i0, i1, i2⟩, ⟨L, im, iL⟩, iB, iP⟩ sz hK
  rw [vS] at sz
  have KB := hid ((q4B W.heap.size W).alloc (Nat.le_refl _) (.cells (ax e).toArray 67))
  have R := hid (hK { tmps := #[.agg #[.slice ra rs.length rcap, .slice za xs.length zcap, .slice la n3 lcap], .pointer (some ⟨N, 0, none⟩), .pointer (some ⟨N + 1, 0, none⟩), .pointer (some ⟨N1, 0, none⟩), .pointer (some ⟨W.heap.size, 0, none⟩), undef, undef, undef, undef, .map (some (N + 1 + 1)), .agg #[], .map (some (N + 1 + 1)), .pointer (some ⟨N, 1, none⟩), .slice za xs.length zcap, .func (.func 110) #[] #[.pointer (some ⟨N1 + 1, 0, none⟩)], gZ e, undef, undef, undef, undef, undef, undef, undef, undef, undef, undef, undef, undef, undef, undef, undef, undef, undef, undef, undef, undef, undef, undef, undef, undef, undef], defers := [] } (W.alloc (.cells (ax e).toArray 67)) ((KeepsOthers.alloc _ _).from _) ⟨KB.out.mono (by omega), fun q => KB.out.block _ q⟩
   ⟨⟨(KB.out.block _ (by omega)).trans i0, (KB.out.block _ (by omega)).trans i1, (KB.out.block _ (by omega)).trans i2⟩, ⟨L, im.alloc _, iL⟩, iB.alloc (by omega) _, iP⟩ ⟨W.heap.size, by omega, World.alloc_heap_new W _, rfl⟩)
  clear hK i0 i1 i2 im iL iB iP
  gi_wp2
  exact R.out
 case body =>
  rintro l pre e a' W hl ⟨r, hr⟩ ⟨⟨i0, i1, i2⟩, ⟨L, im, iL⟩, iB, iP⟩ ⟨Bx, hBx, hX, rfl⟩ hpx sz
  rw [vS] at sz
  have hmem : e ∈ aS xs := fI hpx
  have hpl : pre.length < 100000 := by have h1 := hpx.length_le; have := HN.out; rw [List.length_append] at h1; simp at h1; omega
  have HK := hid (Dj e.rules (HR.out e hmem))
  have EX := kH (aj hX)
  have EX0 := hid EX
  obtain ⟨x0, x1, x2, x3, x4, x5, x6, x7, x8, x9⟩ := EX
  have LX := hid (q4A.1 hX).1
  have lx := LX.out
  obtain ⟨cb, fb⟩ := aa (aj (vs := [.map (some (N + 1 + 1))]) i1) 0 rfl
  obtain ⟨cr, fr⟩ := aa (aj (vs := [.int .i64 0]) i0) 0 rfl
  obtain ⟨cs, fs⟩ := aa (aj (vs := [.slice ra rs.length rcap, .slice za xs.length zcap, .slice la n3 lcap]) i2) 0 rfl
  have HO := hid im
  have I0 := hid i0
  have I1 := hid i1
  have I2 := hid i2
  have IB := hid iB
  have IP := hid iP
  have IL := hid iL
  have SZ := hid sz
  have HM := hid hmem
  have HPX := hid hpx
  have HXX := hid hX
  have lw0 := (q4A.1 i0).1
  have lw1 := (q4A.1 i1).1
  have lw2 := (q4A.1 i2).1
  have CS9 : Hid (∀ w9, (W.alloc (.cells #[] 158)).grownBy w9 (some (N + 1 + 1)) → ak w9 N [.slice ra rs.length rcap, .slice za xs.length zcap, .slice la n3 lcap] ∧ W.heap.size + 1 ≤ w9.heap.size ∧ iA Bx e w9 ∧ w9.heap[N + 1]? = some (.cells #[.int .i64 0] 28) ∧ w9.heap[N1]? = some (.cells #[.map (some (N + 1 + 1))] 154) ∧ w9.heap[N]? = some (.cells #[.slice ra rs.length rcap, .slice za xs.length zcap, .slice la n3 lcap] 26) ∧ w9.heap[N1 + 1]? = W.heap[N1 + 1]? ∧ Below N w w9 ∧ KeepsFrom V.heap.size W w9) := by
   intro w9 hg
   have gs9 := hg.size
   simp only [World.size_alloc] at gs9
   have kk : ∀ j, j < W.heap.size → j ≠ N + 1 + 1 → w9.heap[j]? = W.heap[j]? := fun j hj hn => (hg.block j (by simp; omega) (by intro e; injection e with e; omega)).trans (Below.heap_alloc _ _ _ hj)
   have b9 : Below N (W.alloc (.cells #[] 158)) w9 := ⟨hg.os, hg.tape, hg.output, hg.size, fun k hk => hg.block k (by simp; omega) (by intro e; injection e with e; omega)⟩
   refine ⟨aj (vs := [.slice ra rs.length rcap, .slice za xs.length zcap, .slice la n3 lcap]) ((kk N (by omega) (by omega)).trans i2), gs9, ?_, (kk _ (by omega) (by omega)).trans i0, (kk _ (by omega) (by omega)).trans i1, (kk _ (by omega) (by omega)).trans i2, kk _ (by omega) (by omega), (iB.alloc (by omega) _).trans b9, ((KeepsOthers.alloc _ _).from _).trans (KeepsFrom.of_grownBy hg (by intro j e; injection e with e; rw [vS]; omega))⟩
   exact kH (aj ((kk Bx (by omega) (by omega)).trans hX))
  have CB9 : Hid (∀ w9, (W.alloc (.cells #[] 158)).grownBy w9 (some (N + 1 + 1)) → Below N W w9) := by
   intro w9 hg
   have b9 : Below N (W.alloc (.cells #[] 158)) w9 := ⟨hg.os, hg.tape, hg.output, hg.size, fun k hk => hg.block k (by simp; omega) (by intro e; injection e with e; omega)⟩
   exact (((q4B W.heap.size W).alloc (Nat.le_refl _) _).mono (by omega)).trans b9
  have HH := vv L e.rules
  obtain ⟨b, hb⟩ : ∃ b, L.contains e.rules = b := ⟨_, rfl⟩
  rw [hb] at HH
  have HBB := hid hb
  clear im i0 i1 i2 iB iP iL hr sz hb hmem hpx hX
  cases b
  case true =>
   gi_wp2_with (gi_at_lookup; refine wpListIn_lookup_own_unit _ rfl _ _ 154 rfl 9 158 pG Tryz.underlying154 (Tryz.zeroValue158 _) (N + 1 + 1) (pre.length + 1) (fM L) rfl HO.out _ _ rfl HK.out ?_; rw [HH])
   have hin : e.rules ∈ L := List.contains_iff_mem.1 HBB.out
   have hsk : e.rules = [] ∨ Sx.bM rs e.rules e.shift = 0 := by
    rcases (IL.out _).1 hin with q | ⟨e', he', q⟩
    ·exact .inl q
    ·have hm' : e' ∈ aS xs := HPX.out.subset (List.mem_append_left _ he')
     rcases uB IP.out e' he' with q2 | q2
     ·exact .inl (by rw [← q, q2])
     ·exact .inr (by rw [HZ.out e HM.out e' hm' q.symm, q2])
   exact ⟨(KeepsOthers.alloc _ _).from _, ⟨((q4B W.heap.size W).alloc (Nat.le_refl _) _).mono (by omega), fun q => Below.heap_alloc _ _ _ q⟩,
    ⟨(Below.heap_alloc _ _ _ lw0).trans I0.out, (Below.heap_alloc _ _ _ lw1).trans I1.out, (Below.heap_alloc _ _ _ lw2).trans I2.out⟩,
    ⟨L, by rw [List.length_append]; exact (HO.out.alloc _).mono (by simp), GN IL.out hin⟩, IB.out.alloc (by omega) _, mR IP.out hsk⟩
  case false =>
   gi_wp2_with (first | (gi_at_lookup; refine wpListIn_lookup_own_unit _ rfl _ _ 154 rfl 9 158 pG Tryz.underlying154 (Tryz.zeroValue158 _) (N + 1 + 1) (pre.length + 1) (fM L) rfl HO.out _ _ rfl HK.out ?_; rw [HH]) | (gi_at_mapUpdate; refine wpListIn_mapUpdate_own _ rfl _ _ _ 154 rfl 9 158 pG Tryz.underlying154 (unitElem (H := Unit)) (N + 1 + 1) (pre.length + 1) (fM L) rfl (HO.out.alloc _) (by unfold maxLen; omega) _ _ _ rfl rfl HK.out _ [] unitElem_mk ?_; intro w9 hown9 hgrow9; have C9 := CS9.out w9 hgrow9; obtain ⟨rz, rf⟩ := aa C9.1 0 rfl; obtain ⟨u0, u1, u2, u3, u4, u5, u6, u7, u8, u9⟩ := C9.2.2.1; have sz9 := C9.2.1))
   obtain ⟨cS, sz9', E9, c90, c91, c92, c93, B9, K9⟩ := C9
   have hnin : e.rules ∉ L := fun q => by have := List.contains_iff_mem.2 q; rw [HBB.out] at this; cases this
   have hne : e.rules ≠ [] := fun q => hnin ((IL.out _).2 (.inl q))
   have O9 : Hid (w9.ownsMap Tryz.prog 9 (unitElem (H := Unit)) (N + 1 + 1) ((pre ++ [e]).length + 1) (fM (L ++ [e.rules]))) := by
    show World.ownsMap _ _ _ _ _ _ _
    rw [List.length_append, tJ]; exact hown9
   have NE := hid hne
   have C90 := hid c90
   have C91 := hid c91
   have C92 := hid c92
   have C93 := hid c93
   have BB9 := hid B9
   have KK9 := hid K9
   have SZ9 := hid sz9'
   have CT := hid (yD rs (.slice ra rs.length rcap) e.rules e.shift w9 (au H1.out (by rw [HNN.out]; exact B9)) HS.out)
   obtain ⟨T, hT⟩ : ∃ T, Sx.bM rs e.rules e.shift = T := ⟨_, rfl⟩
   have HT := hid hT
   have BW9 : Hid (Below N W w9) := CB9.out w9 hgrow9
   have XE : Hid (∀ w'', Below w9.heap.size w9 w'' → iA Bx e w'' ∧ ak w'' (N + 1) [.int .i64 0] ∧ N + 1 < w''.heap.size) := by
    intro w'' hb
    have := hb.size
    have q : w''.heap[N + 1]? = some (.cells #[.int .i64 0] 28) := (hb.block _ (by omega)).trans c90
    exact ⟨dz E9 hb (by omega), aj (vs := [.int .i64 0]) q, by omega⟩
   clear hown9 hgrow9 c90 c91 c92 c93 B9 K9 E9 cS sz9' hT hnin hne rz rf u0 u1 u2 u3 u4 u5 u6 u7 u8 u9
   refine ⟨trivial, (CallsIn.inRound l (callsIn_wide.2 CT.out)).mono ?_⟩
   rintro e1 w10 ⟨v, rfl, hot, hb10⟩
   rw [HT.out]
   obtain ⟨⟨u0, u1, u2, u3, u4, u5, u6, u7, u8, u9⟩, cE, lE⟩ := XE.out w10 hb10
   obtain ⟨cr, fr⟩ := aa cE 0 rfl
   have HB10 := hid hb10
   have fin : Hid (T = 0 → KeepsFrom V.heap.size W w10 ∧ KpB N (N1 + 1) W w10 ∧ (w10.heap[N + 1]? = some (.cells #[.int .i64 0] 28) ∧ w10.heap[N1]? = some (.cells #[.map (some (N + 1 + 1))] 154) ∧ w10.heap[N]? = some (.cells #[.slice ra rs.length rcap, .slice za xs.length zcap, .slice la n3 lcap] 26)) ∧ (∃ L, w10.ownsMap Tryz.prog 9 (unitElem (H := Unit)) (N + 1 + 1) ((pre ++ [e]).length + 1) (fM L) ∧ o7 L (pre ++ [e])) ∧ Below N w w10 ∧ iR rs (pre ++ [e]) = 0) := by
    intro hT0
    have := SZ9.out
    have kb := hb10.block
    refine ⟨KK9.out.trans ((cO hb10).from _), ⟨?_, ?_⟩, ⟨(kb _ (by omega)).trans C90.out, (kb _ (by omega)).trans C91.out, (kb _ (by omega)).trans C92.out⟩, ⟨L ++ [e.rules], Fv O9.out hb10, GQ IL.out⟩, BB9.out.trans (hb10.mono (by omega)), mR IP.out (.inr (by rw [HT.out, hT0]))⟩
    ·exact BW9.out.trans (hb10.mono (by omega))
    ·intro q
     exact (kb _ (by omega)).trans C93.out
   clear hot hb10 cE
   by_cases hT0 : T = 0
   ·subst hT0
    have F := hid (fin.out rfl)
    clear fin HT NE
    gi_wp2
    exact F.out
   ·have hc : (T == 0) = false := by simp [hT0]
    have hd : decide (T = 0) = false := by simp [hT0]
    gi_wp2
    have ea : iR rs (pre ++ [e]) = T := by rw [wQ IP.out NE.out (by rw [HT.out]; exact hT0), HT.out]
    refine ⟨KK9.out.trans (((cO HB10.out).trans (KeepsOthers.setCell _ _ _)).from _), rfl, ?_, ?_, ?_⟩
    ·rw [ea]
     exact rG _ ((HB10.out.block _ (by have := SZ9.out; omega)).trans C90.out)
    ·exact aR (BB9.out.trans (HB10.out.mono (by have := SZ9.out; omega))) (by omega) 0 _
    ·rw [ea]; exact hT0
 case done =>
  rintro D ys W hD rfl ⟨⟨i0, i1, i2⟩, ⟨L, im, iL⟩, iB, iP⟩ hK
  rw [vS] at hD
  obtain ⟨cr, fr⟩ := aa (aj (vs := [.int .i64 0]) i0) 0 rfl
  have E := hid (Ev (w := w) (W := W.setCell ⟨N + 1, 0, none⟩ (.int .i64 0)) (N := N) (D := D) (v := 0) (R := fun e w' => e = .returned (.int .i64 (iR rs (aS xs))) ∧ Below N w w') (a := { tmps := #[.agg #[.slice ra rs.length rcap, .slice za xs.length zcap, .slice la n3 lcap], .pointer (some ⟨N, 0, none⟩), .pointer (some ⟨N + 1, 0, none⟩), .pointer (some ⟨N1, 0, none⟩), undef, undef, undef, undef, undef, .map (some (N + 1 + 1)), .agg #[], .map (some (N + 1 + 1)), .pointer (some ⟨N, 1, none⟩), .slice za xs.length zcap, .func (.func 110) #[] #[.pointer (some ⟨N1 + 1, 0, none⟩)], undef, undef, undef, undef, undef, undef, undef, undef, undef, undef, undef, undef, undef, undef, undef, undef, undef, undef, undef, undef, undef, undef, undef, undef, undef, undef], defers := [{ target := .collected D, args := #[] }] }) rfl rfl (rG _ i0) (by omega) (by omega) ((Below.heap_setCell _ _ _ _ (by simp; omega)).trans hK) (aR (by rw [HNN.out]; exact iB) (by omega) 0 _) (fun w' hb => ⟨by rw [iP], by have := hb; rw [HNN.out] at this; exact this⟩))
  clear vr vm vb vB vS vs vc i0 i1 i2 im iL iB iP hK
  gi_wp2
  exact E.out
 case stop =>
  rintro D c pre W hD hpre ⟨rfl, i0, iB, iP⟩ hK
  rw [vS] at hD
  have E := hid (Ev (w := w) (N := N) (D := D) (v := iR rs pre) (R := fun e w' => e = .returned (.int .i64 (iR rs (aS xs))) ∧ Below N w w') (a := { tmps := #[.agg #[.slice ra rs.length rcap, .slice za xs.length zcap, .slice la n3 lcap], .pointer (some ⟨N, 0, none⟩), .pointer (some ⟨N + 1, 0, none⟩), .pointer (some ⟨N1, 0, none⟩), undef, undef, undef, undef, undef, .map (some (N + 1 + 1)), .agg #[], .map (some (N + 1 + 1)), .pointer (some ⟨N, 1, none⟩), .slice za xs.length zcap, .func (.func 110) #[] #[.pointer (some ⟨N1 + 1, 0, none⟩)], undef, undef, undef, undef, undef, undef, undef, undef, undef, undef, undef, undef, undef, undef, undef, undef, undef, undef, undef, undef, undef, undef, undef, undef, undef, undef], defers := [{ target := .collected D, args := #[] }] }) rfl rfl i0 (by omega) (by omega) hK (by rw [HNN.out]; exact iB) (fun w' hb => ⟨by rw [Ah hpre iP], by have := hb; rw [HNN.out] at this; exact this⟩))
  clear vr vm vb vB vS vs vc i0 iB iP hK
  gi_wp2
  exact E.out
end
section
open Go.RowKit Go.Shelf
attribute [local go_sem] Oper.semAt_some

def zeroE : Sx.Er := ⟨0, [], 0, [], false, 0, 0, 0, 0, 0⟩
theorem putE {W : World} {b : Nat} {t : TypeId} {c0 c1 c2 c3 c4 c5 c6 c7 c8 c9 : Value} (v0 v1 v2 v3 v4 v5 v6 v7 v8 v9 : Value) (h : W.heap[b]? = some (.cells #[c0, c1, c2, c3, c4, c5, c6, c7, c8, c9] t)) :
  (((((((((((W.setCell ⟨b, 0, none⟩ (v0)).setCell ⟨b, 1, none⟩ (v1)).setCell ⟨b, 2, none⟩ (v2)).setCell ⟨b, 3, none⟩ (v3)).setCell ⟨b, 4, none⟩ (v4)).setCell ⟨b, 5, none⟩ (v5)).setCell ⟨b, 6, none⟩ (v6)).setCell ⟨b, 7, none⟩ (v7)).setCell ⟨b, 8, none⟩ (v8)).setCell ⟨b, 9, none⟩ (v9))).heap[b]? = some (.cells #[v0, v1, v2, v3, v4, v5, v6, v7, v8, v9] t) := by
 have e := dR (dR (dR (dR (dR (dR (dR (dR (dR (dR h 0 v0) 1 v1) 2 v2) 3 v3) 4 v4) 5 v5) 6 v6) 7 v7) 8 v8) 9 v9
 simp only [List.setIfInBounds_toArray, List.set_cons_zero, List.set_cons_succ] at e
 exact e
theorem IG (W : World) (b : Nat) (v0 v1 v2 v3 v4 v5 v6 v7 v8 v9 : Value) : W.grownBy ((((((((((W.setCell ⟨b, 0, none⟩ (v0)).setCell ⟨b, 1, none⟩ (v1)).setCell ⟨b, 2, none⟩ (v2)).setCell ⟨b, 3, none⟩ (v3)).setCell ⟨b, 4, none⟩ (v4)).setCell ⟨b, 5, none⟩ (v5)).setCell ⟨b, 6, none⟩ (v6)).setCell ⟨b, 7, none⟩ (v7)).setCell ⟨b, 8, none⟩ (v8)).setCell ⟨b, 9, none⟩ (v9)) (some b) := (grown_put (grown_put (grown_put (grown_put (grown_put (grown_put (grown_put (grown_put (grown_put (grown_put (j6 W b) 0 v0) 1 v1) 2 v2) 3 v3) 4 v4) 5 v5) 6 v6) 7 v7) 8 v8) 9 v9)
theorem eX {w W : World} {N D : Nat} {a : Act} {x : Sx.Er} {b : Bool} {R : Ending → World → Prop} (hN : w.heap.size = N) (h4 : a.tmps.getD 4 undef = .pointer (some ⟨N + 1, 0, none⟩)) (h5 : a.tmps.getD 5 undef = .pointer (some ⟨N + 1 + 1, 0, none⟩)) (hd : a.defers = [{ target := .collected D, args := #[] }])
  (i1 : W.heap[N + 1]? = some (.cells (ax x).toArray 67)) (i2 : W.heap[N + 1 + 1]? = some (.cells #[.bool b] 4)) (hD : N + 1 + 1 < D) (hK : W.heap[D]? = some (.deferred (some []))) (hB : Below w.heap.size w W) (hR : ∀ w', Below w.heap.size w w' → R (.returned (.tuple #[gZ x, .bool b])) w') :
  bodyPostM Fence.wide 4 Tryz.prog Tryz.f48 R .ret a W := by
 obtain ⟨tm, df⟩ := a
 dsimp only at h4 h5 hd
 subst hd
 rw [Array.getD_eq_getD_getElem?] at h4 h5
 have hX := belowK_b (w := w) (Nat.le_refl _) W D _ (.deferred none) (by omega) hK rfl rfl
 have j1 : (W.putObj D (.deferred none)).heap[N + 1]? = some (.cells (ax x).toArray 67) := (World.putObj_heap_other (by omega)).trans i1
 have j2 : (W.putObj D (.deferred none)).heap[N + 1 + 1]? = some (.cells #[.bool b] 4) := (World.putObj_heap_other (by omega)).trans i2
 refine ⟨by simp, .inl ⟨_, _, rfl, run_takeDeferred hK, ?_⟩⟩
 have BX := hid (hR _ (hB.trans hX))
 generalize W.putObj D (.deferred none) = X at j1 j2 BX ⊢
 obtain ⟨⟨y0, _⟩, ⟨y1, _⟩, ⟨y2, _⟩, ⟨y3, _⟩, ⟨y4, _⟩, ⟨y5, _⟩, ⟨y6, _⟩, ⟨y7, _⟩, ⟨y8, _⟩, ⟨y9, _⟩, -⟩ := cp10 (aj j1)
 have b0 := (aa (aj (vs := [.bool b]) j2) 0 rfl).1
 clear j1 j2 i1 i2 hK hB hX hR
 refine ⟨.tuple #[gZ x, .bool b], ?_, BX.out⟩
 simp [results, Tryz.results48, go_sem, *]
theorem nV {α : Type} {p : α → Bool} {l : List α} (h : l.any p = false) : l.find? p = none := by
 rw [List.find?_eq_none]
 intro x hx
 have := (List.any_eq_false.1 h) x hx
 simpa using this
theorem jR {α : Type} {p : α → Bool} {pre l : List α} {x : α} (h : pre ++ [x] <+: l) (hp : pre.any p = false) (hx : p x = true) : l.find? p = some x ∧ l.any p = true := by
 obtain ⟨t, rfl⟩ := h
 refine ⟨?_, ?_⟩
 ·rw [List.append_assoc, List.find?_append, nV hp]; simp [hx]
 ·simp [hx]
theorem uT (gf hf : Nat) (lb hc : Array Value) (p : Sx.Er → Bool) (xs : List Sx.Er) (w : World)
  (eg : ∀ args w, (callFunc gf args).run Tryz.prog w = .ok (.enter gf args) w) (eh : ∀ args w, (callFunc hf args).run Tryz.prog w = .ok (.enter hf args) w)
  (hseq : ∀ w1, Below w.heap.size w w1 → mM Fence.wide 3 Tryz.prog gf lb (fun x : Sx.Er => #[gZ x]) (Below w.heap.size) (fun ys => ys = xs) (fun pre => pre <+: xs) w1)
  (hp : ∀ x ∈ xs, ∀ W, Below w.heap.size w W → Calls Tryz.prog hf (#[gZ x] ++ hc) W fun e W' => e = .returned (.bool (p x)) ∧ Below W.heap.size W W') :
  Calls Tryz.prog 48 #[.func (.func gf) #[] lb, .func (.func hf) #[] hc] w
   fun e w' => e = .returned (.tuple #[gZ ((xs.find? p).getD zeroE), .bool (xs.any p)]) ∧ Below w.heap.size w w' := by
 refine (callsIn_wide (n := 4)).1 ?_
 refine callsIn_of_wp_marks Tryz.func48 rfl trivial ?_ rfl
 simp only [Tryz.ntmps48, List.size_toArray, List.length_cons, List.length_nil, Nat.reduceAdd, Nat.reduceSub, Array.replicate_succ, Array.replicate_zero, List.push_toArray, List.append_toArray, List.nil_append, List.cons_append]
 have HP := hid hp
 have HQ := hid hseq
 clear hp hseq
 gi_wp2
 obtain ⟨N, hN⟩ : ∃ N, w.heap.size = N := ⟨_, rfl⟩
 obtain ⟨V, hV⟩ : ∃ V, (((w.alloc (.cells #[.func (.func hf) #[] hc] 101)).alloc (.cells (ax zeroE).toArray 67)).alloc (.cells #[.bool false] 4)) = V := ⟨_, rfl⟩
 rw [show (((w.alloc (.cells #[.func (.func hf) #[] hc] 101)).alloc (.cells #[.int .i64 0, .string ⟨#[]⟩, .int .i64 0, .string ⟨#[]⟩, .bool false, .int .i64 0, .int .i64 0, .int .i64 0, .int .i64 0, .int .i64 0] 67)).alloc (.cells #[.bool false] 4)) = V from hV]
 have vS : V.heap.size = N + 3 := by rw [← hV, ← hN]; simp
 have v0 : V.heap[N]? = some (.cells #[.func (.func hf) #[] hc] 101) := by
  rw [← hV, Below.heap_alloc _ _ _ (by simp; omega), Below.heap_alloc _ _ _ (by simp; omega), ← hN]; exact World.alloc_heap_new w _
 have v1 : V.heap[N + 1]? = some (.cells (ax zeroE).toArray 67) := by
  rw [← hV, Below.heap_alloc _ _ _ (by simp; omega), ← hN]
  have := World.alloc_heap_new (w.alloc (.cells #[.func (.func hf) #[] hc] 101)) (.cells (ax zeroE).toArray 67)
  rwa [World.size_alloc] at this
 have v2 : V.heap[N + 1 + 1]? = some (.cells #[.bool false] 4) := by
  rw [← hV, ← hN]
  have := World.alloc_heap_new ((w.alloc (.cells #[.func (.func hf) #[] hc] 101)).alloc (.cells (ax zeroE).toArray 67)) (.cells #[.bool false] 4)
  rwa [World.size_alloc, World.size_alloc] at this
 have vB : Below w.heap.size w V := by
  rw [← hV]; exact (((q4B _ w).alloc (Nat.le_refl _) _).alloc (by simp) _).alloc (by simp; omega) _
 rw [hN]
 refine gP rfl (by omega) (gf := gf) (lb := lb) rfl trivial eg
  (oo (HQ.out V vB)) (fun h k => h.trans k) (belowK_b (by omega)) (q4B _ _) (fun _ => rfl)
  (fun (pre : List Sx.Er) W => (W.heap[N]? = some (.cells #[.func (.func hf) #[] hc] 101) ∧ W.heap[N + 1]? = some (.cells (ax zeroE).toArray 67) ∧ W.heap[N + 1 + 1]? = some (.cells #[.bool false] 4)) ∧ Below w.heap.size w W ∧ pre.any p = false)
  (fun c (pre : List Sx.Er) W => c = .ret ∧ (∃ x, W.heap[N + 1]? = some (.cells (ax x).toArray 67) ∧ (pre <+: xs → xs.find? p = some x)) ∧ W.heap[N + 1 + 1]? = some (.cells #[.bool true] 4) ∧ Below w.heap.size w W ∧ (pre <+: xs → xs.any p = true))
  (bX.and (bX.and (aV (by omega)) (bX.and (aV (by omega)) (aV (by omega)))) (bX.and (eY (Nat.le_refl _) (by omega)) (bN _)))
  (fun c => bX.and (bN _) (bX.and (uh fun x => bX.and (aV (by omega)) (bN _)) (bX.and (aV (by omega)) (bX.and (eY (Nat.le_refl _) (by omega)) (bN _)))))
  ⟨⟨v0, v1, v2⟩, vB, rfl⟩
  (fun x a' W => ∃ Bx, N + 1 + 1 < Bx ∧ W.heap[Bx]? = some (.cells (ax x).toArray 67 (0, 0)) ∧ a' = { tmps := #[.func (.func gf) #[] lb, .func (.func hf) #[] hc, undef, .pointer (some ⟨N, 0, none⟩), .pointer (some ⟨N + 1, 0, none⟩), .pointer (some ⟨N + 1 + 1, 0, none⟩), .pointer (some ⟨Bx, 0, none⟩), undef, .func (.func gf) #[] lb, gZ x, undef, undef, undef, undef, undef], defers := [] })
  ?hAx ?assign ?body ?done ?stop
 case hAx =>
  rintro x a' _ X Y row ⟨Bx, q1, q2, q3⟩ hg hr
  refine ⟨Bx, q1, ?_, q3⟩
  rw [hg.block Bx (q4A.1 q2).1 (fun e => by obtain ⟨_, o, ho, hc⟩ := hr Bx e.symm; rw [q2] at ho; cases ho; simp [Obj.isCells] at hc)]
  exact q2
 case assign =>
  rintro l pre x W K ⟨⟨i0, i1, i2⟩, iB, iP⟩ sz hK
  rw [vS] at sz
  have KB := hid ((q4B W.heap.size W).alloc (Nat.le_refl _) (.cells (ax x).toArray 67))
  have R := hid (hK { tmps := #[.func (.func gf) #[] lb, .func (.func hf) #[] hc, undef, .pointer (some ⟨N, 0, none⟩), .pointer (some ⟨N + 1, 0, none⟩), .pointer (some ⟨N + 1 + 1, 0, none⟩), .pointer (some ⟨W.heap.size, 0, none⟩), undef, .func (.func gf) #[] lb, gZ x, undef, undef, undef, undef, undef], defers := [] } (W.alloc (.cells (ax x).toArray 67)) ((KeepsOthers.alloc _ _).from _) (KB.out.mono iB.size)
   ⟨⟨(KB.out.block _ (q4A.1 i0).1).trans i0, (KB.out.block _ (q4A.1 i1).1).trans i1, (KB.out.block _ (q4A.1 i2).1).trans i2⟩, iB.alloc iB.size _, iP⟩ ⟨W.heap.size, by omega, World.alloc_heap_new W _, rfl⟩)
  clear hK i0 i1 i2
  gi_wp2
  exact R.out
 case body =>
  rintro l pre x a' W hl ⟨r, hr⟩ ⟨⟨i0, i1, i2⟩, iB, iP⟩ ⟨Bx, hBx, hX, rfl⟩ hpx sz
  have HC := hid (HP.out x (fI hpx) W iB)
  obtain ⟨⟨x0, _⟩, ⟨x1, _⟩, ⟨x2, _⟩, ⟨x3, _⟩, ⟨x4, _⟩, ⟨x5, _⟩, ⟨x6, _⟩, ⟨x7, _⟩, ⟨x8, _⟩, ⟨x9, _⟩, -⟩ := cp10 (aj hX)
  have f0 := (aa (aj (vs := [.func (.func hf) #[] hc]) i0) 0 rfl).1
  have sx := (q4A.1 hX).1
  have s0 := (q4A.1 i0).1
  have HX := hid hX
  have I0 := hid i0
  have I1 := hid i1
  have I2 := hid i2
  have IB := hid iB
  have HPX := hid hpx
  clear hX i0 i1 i2 iB hr hpx
  obtain ⟨C, hC⟩ : ∃ C, p x = C := ⟨_, rfl⟩
  rw [hC] at HC
  have HCC := hid hC
  have IP := hid iP
  have SV : Hid (V.heap.size = N + 3 ∧ w.heap.size = N) := ⟨vS, hN⟩
  clear hC iP
  cases C
  case false =>
   gi_wp2_with fail
   refine ⟨trivial, (CallsIn.inRound l (callsIn_wide.2 HC.out)).mono ?_⟩
   rintro e w1 ⟨rfl, hb⟩
   gi_wp2
   refine ⟨(cO hb).from _, hb.mono IB.out.size, ⟨(hb.block _ (q4A.1 I0.out).1).trans I0.out, (hb.block _ (q4A.1 I1.out).1).trans I1.out, (hb.block _ (q4A.1 I2.out).1).trans I2.out⟩, IB.out.trans (hb.mono IB.out.size), ?_⟩
   rw [List.any_append, IP.out]; simp [HCC.out]
  case true =>
   gi_wp2_with fail
   refine ⟨trivial, (CallsIn.inRound l (callsIn_wide.2 HC.out)).mono ?_⟩
   rintro e w1 ⟨rfl, hb⟩
   have HB := hid hb
   have CX := ai (aj HX.out) hb
   obtain ⟨y0, _⟩ := aa CX 0 rfl; obtain ⟨y1, _⟩ := aa CX 1 rfl; obtain ⟨y2, _⟩ := aa CX 2 rfl; obtain ⟨y3, _⟩ := aa CX 3 rfl; obtain ⟨y4, _⟩ := aa CX 4 rfl; obtain ⟨y5, _⟩ := aa CX 5 rfl; obtain ⟨y6, _⟩ := aa CX 6 rfl; obtain ⟨y7, _⟩ := aa CX 7 rfl; obtain ⟨y8, _⟩ := aa CX 8 rfl; obtain ⟨y9, _⟩ := aa CX 9 rfl
   have CR := ai (aj I1.out) hb
   obtain ⟨r0, q0⟩ := aa CR 0 rfl; obtain ⟨r1, q1⟩ := aa CR 1 rfl; obtain ⟨r2, q2⟩ := aa CR 2 rfl; obtain ⟨r3, q3⟩ := aa CR 3 rfl; obtain ⟨r4, q4⟩ := aa CR 4 rfl; obtain ⟨r5, q5⟩ := aa CR 5 rfl; obtain ⟨r6, q6⟩ := aa CR 6 rfl; obtain ⟨r7, q7⟩ := aa CR 7 rfl; obtain ⟨r8, q8⟩ := aa CR 8 rfl; obtain ⟨r9, q9⟩ := aa CR 9 rfl
   have CB := ai (aj (vs := [.bool false]) I2.out) hb
   obtain ⟨b0, b1⟩ := aa CB 0 rfl
   have sR := CR.1
   have sB := CB.1
   clear hb CX CR CB
   gi_wp2
   have G1 := IG w1 (N + 1) (.int .i64 x.shift) (ag x.rules) (.int .i64 x.save) (ag x.format) (.bool x.opn) (.int .i64 x.uy) (.int .i64 x.um) (.int .i64 x.ud) (.int .i64 x.uat) (.int .i64 x.uclock)
   have hb := HB.out
   have e1 := (hb.block _ (q4A.1 I1.out).1).trans I1.out
   have e2 := (hb.block _ (q4A.1 I2.out).1).trans I2.out
   have p1 := putE (.int .i64 x.shift) (ag x.rules) (.int .i64 x.save) (ag x.format) (.bool x.opn) (.int .i64 x.uy) (.int .i64 x.um) (.int .i64 x.ud) (.int .i64 x.uat) (.int .i64 x.uclock) e1
   have p2 := (G1.block (N + 1 + 1) (q4A.1 e2).1 (by simp)).trans e2
   have p3 := rG (.bool true) p2
   have G2 := grownBy_setCell' ((((((((((w1.setCell ⟨N + 1, 0, none⟩ (.int .i64 x.shift)).setCell ⟨N + 1, 1, none⟩ (ag x.rules)).setCell ⟨N + 1, 2, none⟩ (.int .i64 x.save)).setCell ⟨N + 1, 3, none⟩ (ag x.format)).setCell ⟨N + 1, 4, none⟩ (.bool x.opn)).setCell ⟨N + 1, 5, none⟩ (.int .i64 x.uy)).setCell ⟨N + 1, 6, none⟩ (.int .i64 x.um)).setCell ⟨N + 1, 7, none⟩ (.int .i64 x.ud)).setCell ⟨N + 1, 8, none⟩ (.int .i64 x.uat)).setCell ⟨N + 1, 9, none⟩ (.int .i64 x.uclock)) (N + 1 + 1) (.bool true)
   have B1 := IB.out.trans (hb.mono IB.out.size)
   have B2 := B1.grown G1 B1.size (fun k e => by cases e; have := SV.out; omega)
   have B3 := B2.grown G2 B2.size (fun k e => by cases e; have := SV.out; omega)
   refine ⟨(((cO hb).trans (dW G1 e1)).trans (dW G2 p2)).from _, rfl, ⟨x, ?_, fun q => (jR q IP.out HCC.out).1⟩, p3, B3, fun q => (jR q IP.out HCC.out).2⟩
   exact (G2.block (N + 1) (q4A.1 p1).1 (by simp)).trans p1
 case done =>
  rintro D ys W hD rfl ⟨⟨i0, i1, i2⟩, iB, iP⟩ hK
  rw [vS] at hD
  have hD0 : N + 1 + 1 < D := by omega
  have CR := aj i1
  have CB := aj (vs := [.bool false]) i2
  obtain ⟨⟨r0, q0⟩, ⟨r1, q1⟩, ⟨r2, q2⟩, ⟨r3, q3⟩, ⟨r4, q4⟩, ⟨r5, q5⟩, ⟨r6, q6⟩, ⟨r7, q7⟩, ⟨r8, q8⟩, ⟨r9, q9⟩, -⟩ := cp10 CR
  obtain ⟨b0, b1⟩ := aa CB 0 rfl
  have sR := CR.1
  have sB := CB.1
  have HK := hid hK
  have IB := hid iB
  have IP := hid iP
  have I1 := hid i1
  have I2 := hid i2
  clear i0 i1 i2 CR CB hK iB iP v0 v1 v2 vB hV vS eg
  gi_wp2
  have G0 := World.grownBy_alloc W (.cells (ax zeroE).toArray 67) none
  have G1 := IG W (N + 1) (.int .i64 0) (.string ⟨#[]⟩) (.int .i64 0) (.string ⟨#[]⟩) (.bool false) (.int .i64 0) (.int .i64 0) (.int .i64 0) (.int .i64 0) (.int .i64 0)
  have p1 := putE (.int .i64 0) (.string ⟨#[]⟩) (.int .i64 0) (.string ⟨#[]⟩) (.bool false) (.int .i64 0) (.int .i64 0) (.int .i64 0) (.int .i64 0) (.int .i64 0) I1.out
  have p2 := (G1.block (N + 1 + 1) (q4A.1 I2.out).1 (by simp)).trans I2.out
  have p3 := rG (.bool false) p2
  have G2 := grownBy_setCell' ((((((((((W.setCell ⟨N + 1, 0, none⟩ (.int .i64 0)).setCell ⟨N + 1, 1, none⟩ (.string ⟨#[]⟩)).setCell ⟨N + 1, 2, none⟩ (.int .i64 0)).setCell ⟨N + 1, 3, none⟩ (.string ⟨#[]⟩)).setCell ⟨N + 1, 4, none⟩ (.bool false)).setCell ⟨N + 1, 5, none⟩ (.int .i64 0)).setCell ⟨N + 1, 6, none⟩ (.int .i64 0)).setCell ⟨N + 1, 7, none⟩ (.int .i64 0)).setCell ⟨N + 1, 8, none⟩ (.int .i64 0)).setCell ⟨N + 1, 9, none⟩ (.int .i64 0)) (N + 1 + 1) (.bool false)
  have p4 := (G2.block (N + 1) (q4A.1 p1).1 (by simp)).trans p1
  have d1 := (G1.block D (q4A.1 HK.out).1 (by simp; omega)).trans HK.out
  have d2 := (G2.block D (q4A.1 d1).1 (by simp; omega)).trans d1
  have B2 := IB.out.grown G1 IB.out.size (fun k e => by cases e; omega)
  have B3 := B2.grown G2 B2.size (fun k e => by cases e; omega)
  have B4 := B3.alloc B3.size (.cells (ax zeroE).toArray 67)
  refine eX (x := zeroE) (b := false) hN rfl rfl rfl ((Below.heap_alloc _ _ _ (q4A.1 p4).1).trans p4) ((Below.heap_alloc _ _ _ (q4A.1 p3).1).trans p3) hD0 ((Below.heap_alloc _ _ _ (q4A.1 d2).1).trans d2) B4 (fun w' hb => ⟨?_, hb⟩)
  rw [IP.out, nV IP.out]; rfl
 case stop =>
  rintro D c pre W hD hpre ⟨rfl, ⟨x, i1, hx⟩, i2, iB, hA⟩ hK
  rw [vS] at hD
  have hA' := hA hpre
  have hx' := hx hpre
  have E := hid (eX (R := fun e w' => e = .returned (.tuple #[gZ ((xs.find? p).getD zeroE), .bool (xs.any p)]) ∧ Below w.heap.size w w') (a := { tmps := #[.func (.func gf) #[] lb, .func (.func hf) #[] hc, undef, .pointer (some ⟨N, 0, none⟩), .pointer (some ⟨N + 1, 0, none⟩), .pointer (some ⟨N + 1 + 1, 0, none⟩), undef, undef, .func (.func gf) #[] lb, undef, undef, undef, undef, undef, undef], defers := [{ target := .collected D, args := #[] }] }) hN rfl rfl rfl i1 i2 (show N + 1 + 1 < D by omega) hK iB (fun w' hb => ⟨by rw [hA', hx']; rfl, hb⟩))
  clear v0 v1 v2 vB hV vS i1 i2 hK iB hA hA' hx hx' eg
  gi_wp2
  exact E.out
theorem IM (gf hf : Nat) (lb hc : Array Value) (p : Sx.Er → Bool) (xs : List Sx.Er) (w : World)
  (eg : ∀ args w, (callFunc gf args).run Tryz.prog w = .ok (.enter gf args) w) (eh : ∀ args w, (callFunc hf args).run Tryz.prog w = .ok (.enter hf args) w)
  (hseq : ∀ w1, Below w.heap.size w w1 → mM Fence.wide 3 Tryz.prog gf lb (fun x : Sx.Er => #[gZ x]) (Below w.heap.size) (fun ys => ys = xs) (fun pre => pre <+: xs) w1)
  (hp : ∀ x ∈ xs, ∀ W, Below w.heap.size w W → Calls Tryz.prog hf (#[gZ x] ++ hc) W fun e W' => e = .returned (.bool (p x)) ∧ Below W.heap.size W W') :
  Calls Tryz.prog 105 #[.func (.func gf) #[] lb, .func (.func hf) #[] hc] w
   fun e w' => e = .returned (.bool (xs.any p)) ∧ Below w.heap.size w w' := by
 have C := hid (uT gf hf lb hc p xs w eg eh hseq hp)
 clear hseq hp
 obtain ⟨x, hx⟩ : ∃ x, (xs.find? p).getD zeroE = x := ⟨_, rfl⟩
 rw [hx] at C
 clear hx
 go_enter Tryz.func105, Tryz.ntmps105
 go_wp2_with fail
 refine C.out.mono ?_
 rintro e w1 ⟨rfl, hb⟩
 have HB := hid hb
 clear hb
 go_wp2
 go_ret
 exact ⟨rfl, HB.out.alloc HB.out.size _⟩
end
section
open Go.RowKit Go.Shelf
attribute [local go_sem] Oper.semAt_some

def kE : ZV := ⟨⟨[], []⟩, none, 0⟩
theorem putZ {W : World} {b : Nat} {t : TypeId} {c0 c1 : Value} (v0 v1 : Value) (h : W.heap[b]? = some (.cells #[c0, c1] t)) :
  (((W.setCell ⟨b, 0, none⟩ (v0)).setCell ⟨b, 1, none⟩ (v1))).heap[b]? = some (.cells #[v0, v1] t) := by
 have e := dR (dR h 0 v0) 1 v1
 simp only [List.setIfInBounds_toArray, List.set_cons_zero, List.set_cons_succ] at e
 exact e
theorem IJ (W : World) (b : Nat) (v0 v1 : Value) : W.grownBy ((W.setCell ⟨b, 0, none⟩ (v0)).setCell ⟨b, 1, none⟩ (v1)) (some b) := (grown_put (grown_put (j6 W b) 0 v0) 1 v1)
theorem uX {w W : World} {N D : Nat} {a : Act} {x : ZV} {b : Bool} {R : Ending → World → Prop} (hN : w.heap.size = N) (h4 : a.tmps.getD 4 undef = .pointer (some ⟨N + 1, 0, none⟩)) (h5 : a.tmps.getD 5 undef = .pointer (some ⟨N + 1 + 1, 0, none⟩)) (hd : a.defers = [{ target := .collected D, args := #[] }])
  (i1 : W.heap[N + 1]? = some (.cells (aJ x).toArray 44)) (i2 : W.heap[N + 1 + 1]? = some (.cells #[.bool b] 4)) (hD : N + 1 + 1 < D) (hK : W.heap[D]? = some (.deferred (some []))) (hB : Below w.heap.size w W) (hR : ∀ w', Below w.heap.size w w' → R (.returned (.tuple #[zvV x, .bool b])) w') :
  bodyPostM Fence.wide 4 Tryz.prog Tryz.f117 R .ret a W := by
 obtain ⟨tm, df⟩ := a
 dsimp only at h4 h5 hd
 subst hd
 rw [Array.getD_eq_getD_getElem?] at h4 h5
 have hX := belowK_b (w := w) (Nat.le_refl _) W D _ (.deferred none) (by omega) hK rfl rfl
 have j1 : (W.putObj D (.deferred none)).heap[N + 1]? = some (.cells (aJ x).toArray 44) := (World.putObj_heap_other (by omega)).trans i1
 have j2 : (W.putObj D (.deferred none)).heap[N + 1 + 1]? = some (.cells #[.bool b] 4) := (World.putObj_heap_other (by omega)).trans i2
 refine ⟨by simp, .inl ⟨_, _, rfl, run_takeDeferred hK, ?_⟩⟩
 have BX := hid (hR _ (hB.trans hX))
 generalize W.putObj D (.deferred none) = X at j1 j2 BX ⊢
 obtain ⟨⟨y0, _⟩, ⟨y1, _⟩, -⟩ := cp2 (aj j1)
 have b0 := (aa (aj (vs := [.bool b]) j2) 0 rfl).1
 clear j1 j2 i1 i2 hK hB hX hR
 refine ⟨.tuple #[zvV x, .bool b], ?_, BX.out⟩
 simp [results, Tryz.results117, go_sem, *]
theorem uW (gf hf : Nat) (lb hc : Array Value) (p : ZV → Bool) (xs : List ZV) (w : World)
  (eg : ∀ args w, (callFunc gf args).run Tryz.prog w = .ok (.enter gf args) w) (eh : ∀ args w, (callFunc hf args).run Tryz.prog w = .ok (.enter hf args) w)
  (hseq : ∀ w1, Below w.heap.size w w1 → mM Fence.wide 3 Tryz.prog gf lb (fun x : ZV => #[zvV x]) (Below w.heap.size) (fun ys => ys = xs) (fun pre => pre <+: xs) w1)
  (hp : ∀ x ∈ xs, ∀ W, Below w.heap.size w W → Calls Tryz.prog hf (#[zvV x] ++ hc) W fun e W' => e = .returned (.bool (p x)) ∧ Below W.heap.size W W') :
  Calls Tryz.prog 117 #[.func (.func gf) #[] lb, .func (.func hf) #[] hc] w
   fun e w' => e = .returned (.tuple #[zvV ((xs.find? p).getD kE), .bool (xs.any p)]) ∧ Below w.heap.size w w' := by
 refine (callsIn_wide (n := 4)).1 ?_
 refine callsIn_of_wp_marks Tryz.func117 rfl trivial ?_ rfl
 simp only [Tryz.ntmps117, List.size_toArray, List.length_cons, List.length_nil, Nat.reduceAdd, Nat.reduceSub, Array.replicate_succ, Array.replicate_zero, List.push_toArray, List.append_toArray, List.nil_append, List.cons_append]
 have HP := hid hp
 have HQ := hid hseq
 clear hp hseq
 gi_wp2
 obtain ⟨N, hN⟩ : ∃ N, w.heap.size = N := ⟨_, rfl⟩
 obtain ⟨V, hV⟩ : ∃ V, (((w.alloc (.cells #[.func (.func hf) #[] hc] 161)).alloc (.cells (aJ kE).toArray 44)).alloc (.cells #[.bool false] 4)) = V := ⟨_, rfl⟩
 rw [show (((w.alloc (.cells #[.func (.func hf) #[] hc] 161)).alloc (.cells #[.string ⟨#[]⟩, .slice none 0 0] 44)).alloc (.cells #[.bool false] 4)) = V from hV]
 have vS : V.heap.size = N + 3 := by rw [← hV, ← hN]; simp
 have v0 : V.heap[N]? = some (.cells #[.func (.func hf) #[] hc] 161) := by
  rw [← hV, Below.heap_alloc _ _ _ (by simp; omega), Below.heap_alloc _ _ _ (by simp; omega), ← hN]; exact World.alloc_heap_new w _
 have v1 : V.heap[N + 1]? = some (.cells (aJ kE).toArray 44) := by
  rw [← hV, Below.heap_alloc _ _ _ (by simp; omega), ← hN]
  have := World.alloc_heap_new (w.alloc (.cells #[.func (.func hf) #[] hc] 161)) (.cells (aJ kE).toArray 44)
  rwa [World.size_alloc] at this
 have v2 : V.heap[N + 1 + 1]? = some (.cells #[.bool false] 4) := by
  rw [← hV, ← hN]
  have := World.alloc_heap_new ((w.alloc (.cells #[.func (.func hf) #[] hc] 161)).alloc (.cells (aJ kE).toArray 44)) (.cells #[.bool false] 4)
  rwa [World.size_alloc, World.size_alloc] at this
 have vB : Below w.heap.size w V := by
  rw [← hV]; exact (((q4B _ w).alloc (Nat.le_refl _) _).alloc (by simp) _).alloc (by simp; omega) _
 rw [hN]
 refine gP rfl (by omega) (gf := gf) (lb := lb) rfl trivial eg
  (oo (HQ.out V vB)) (fun h k => h.trans k) (belowK_b (by omega)) (q4B _ _) (fun _ => rfl)
  (fun (pre : List ZV) W => (W.heap[N]? = some (.cells #[.func (.func hf) #[] hc] 161) ∧ W.heap[N + 1]? = some (.cells (aJ kE).toArray 44) ∧ W.heap[N + 1 + 1]? = some (.cells #[.bool false] 4)) ∧ Below w.heap.size w W ∧ pre.any p = false)
  (fun c (pre : List ZV) W => c = .ret ∧ (∃ x, W.heap[N + 1]? = some (.cells (aJ x).toArray 44) ∧ (pre <+: xs → xs.find? p = some x)) ∧ W.heap[N + 1 + 1]? = some (.cells #[.bool true] 4) ∧ Below w.heap.size w W ∧ (pre <+: xs → xs.any p = true))
  (bX.and (bX.and (aV (by omega)) (bX.and (aV (by omega)) (aV (by omega)))) (bX.and (eY (Nat.le_refl _) (by omega)) (bN _)))
  (fun c => bX.and (bN _) (bX.and (uh fun x => bX.and (aV (by omega)) (bN _)) (bX.and (aV (by omega)) (bX.and (eY (Nat.le_refl _) (by omega)) (bN _)))))
  ⟨⟨v0, v1, v2⟩, vB, rfl⟩
  (fun x a' W => ∃ Bx, N + 1 + 1 < Bx ∧ W.heap[Bx]? = some (.cells (aJ x).toArray 44 (0, 0)) ∧ a' = { tmps := #[.func (.func gf) #[] lb, .func (.func hf) #[] hc, undef, .pointer (some ⟨N, 0, none⟩), .pointer (some ⟨N + 1, 0, none⟩), .pointer (some ⟨N + 1 + 1, 0, none⟩), .pointer (some ⟨Bx, 0, none⟩), undef, .func (.func gf) #[] lb, zvV x, undef, undef, undef, undef, undef], defers := [] })
  ?hAx ?assign ?body ?done ?stop
 case hAx =>
  rintro x a' _ X Y row ⟨Bx, q1, q2, q3⟩ hg hr
  refine ⟨Bx, q1, ?_, q3⟩
  rw [hg.block Bx (q4A.1 q2).1 (fun e => by obtain ⟨_, o, ho, hc⟩ := hr Bx e.symm; rw [q2] at ho; cases ho; simp [Obj.isCells] at hc)]
  exact q2
 case assign =>
  rintro l pre x W K ⟨⟨i0, i1, i2⟩, iB, iP⟩ sz hK
  rw [vS] at sz
  have KB := hid ((q4B W.heap.size W).alloc (Nat.le_refl _) (.cells (aJ x).toArray 44))
  have R := hid (hK { tmps := #[.func (.func gf) #[] lb, .func (.func hf) #[] hc, undef, .pointer (some ⟨N, 0, none⟩), .pointer (some ⟨N + 1, 0, none⟩), .pointer (some ⟨N + 1 + 1, 0, none⟩), .pointer (some ⟨W.heap.size, 0, none⟩), undef, .func (.func gf) #[] lb, zvV x, undef, undef, undef, undef, undef], defers := [] } (W.alloc (.cells (aJ x).toArray 44)) ((KeepsOthers.alloc _ _).from _) (KB.out.mono iB.size)
   ⟨⟨(KB.out.block _ (q4A.1 i0).1).trans i0, (KB.out.block _ (q4A.1 i1).1).trans i1, (KB.out.block _ (q4A.1 i2).1).trans i2⟩, iB.alloc iB.size _, iP⟩ ⟨W.heap.size, by omega, World.alloc_heap_new W _, rfl⟩)
  clear hK i0 i1 i2
  gi_wp2
  exact R.out
 case body =>
  rintro l pre x a' W hl ⟨r, hr⟩ ⟨⟨i0, i1, i2⟩, iB, iP⟩ ⟨Bx, hBx, hX, rfl⟩ hpx sz
  have HC := hid (HP.out x (fI hpx) W iB)
  obtain ⟨⟨x0, _⟩, ⟨x1, _⟩, -⟩ := cp2 (aj hX)
  have f0 := (aa (aj (vs := [.func (.func hf) #[] hc]) i0) 0 rfl).1
  have sx := (q4A.1 hX).1
  have s0 := (q4A.1 i0).1
  have HX := hid hX
  have I0 := hid i0
  have I1 := hid i1
  have I2 := hid i2
  have IB := hid iB
  have HPX := hid hpx
  clear hX i0 i1 i2 iB hr hpx
  obtain ⟨C, hC⟩ : ∃ C, p x = C := ⟨_, rfl⟩
  rw [hC] at HC
  have HCC := hid hC
  have IP := hid iP
  have SV : Hid (V.heap.size = N + 3 ∧ w.heap.size = N) := ⟨vS, hN⟩
  clear hC iP
  cases C
  case false =>
   gi_wp2_with fail
   refine ⟨trivial, (CallsIn.inRound l (callsIn_wide.2 HC.out)).mono ?_⟩
   rintro e w1 ⟨rfl, hb⟩
   gi_wp2
   refine ⟨(cO hb).from _, hb.mono IB.out.size, ⟨(hb.block _ (q4A.1 I0.out).1).trans I0.out, (hb.block _ (q4A.1 I1.out).1).trans I1.out, (hb.block _ (q4A.1 I2.out).1).trans I2.out⟩, IB.out.trans (hb.mono IB.out.size), ?_⟩
   rw [List.any_append, IP.out]; simp [HCC.out]
  case true =>
   gi_wp2_with fail
   refine ⟨trivial, (CallsIn.inRound l (callsIn_wide.2 HC.out)).mono ?_⟩
   rintro e w1 ⟨rfl, hb⟩
   have HB := hid hb
   have CX := ai (aj HX.out) hb
   obtain ⟨y0, _⟩ := aa CX 0 rfl; obtain ⟨y1, _⟩ := aa CX 1 rfl
   have CR := ai (aj I1.out) hb
   obtain ⟨r0, q0⟩ := aa CR 0 rfl; obtain ⟨r1, q1⟩ := aa CR 1 rfl
   have CB := ai (aj (vs := [.bool false]) I2.out) hb
   obtain ⟨b0, b1⟩ := aa CB 0 rfl
   have sR := CR.1
   have sB := CB.1
   clear hb CX CR CB
   gi_wp2
   have G1 := IJ w1 (N + 1) (ag x.z.name) (.slice x.a x.z.eras.length x.c)
   have hb := HB.out
   have e1 := (hb.block _ (q4A.1 I1.out).1).trans I1.out
   have e2 := (hb.block _ (q4A.1 I2.out).1).trans I2.out
   have p1 := putZ (ag x.z.name) (.slice x.a x.z.eras.length x.c) e1
   have p2 := (G1.block (N + 1 + 1) (q4A.1 e2).1 (by simp)).trans e2
   have p3 := rG (.bool true) p2
   have G2 := grownBy_setCell' ((w1.setCell ⟨N + 1, 0, none⟩ (ag x.z.name)).setCell ⟨N + 1, 1, none⟩ (.slice x.a x.z.eras.length x.c)) (N + 1 + 1) (.bool true)
   have B1 := IB.out.trans (hb.mono IB.out.size)
   have B2 := B1.grown G1 B1.size (fun k e => by cases e; have := SV.out; omega)
   have B3 := B2.grown G2 B2.size (fun k e => by cases e; have := SV.out; omega)
   refine ⟨(((cO hb).trans (dW G1 e1)).trans (dW G2 p2)).from _, rfl, ⟨x, ?_, fun q => (jR q IP.out HCC.out).1⟩, p3, B3, fun q => (jR q IP.out HCC.out).2⟩
   exact (G2.block (N + 1) (q4A.1 p1).1 (by simp)).trans p1
 case done =>
  rintro D ys W hD rfl ⟨⟨i0, i1, i2⟩, iB, iP⟩ hK
  rw [vS] at hD
  have hD0 : N + 1 + 1 < D := by omega
  have CR := aj i1
  have CB := aj (vs := [.bool false]) i2
  obtain ⟨⟨r0, q0⟩, ⟨r1, q1⟩, -⟩ := cp2 CR
  obtain ⟨b0, b1⟩ := aa CB 0 rfl
  have sR := CR.1
  have sB := CB.1
  have HK := hid hK
  have IB := hid iB
  have IP := hid iP
  have I1 := hid i1
  have I2 := hid i2
  clear i0 i1 i2 CR CB hK iB iP v0 v1 v2 vB hV vS eg
  gi_wp2
  have G0 := World.grownBy_alloc W (.cells (aJ kE).toArray 44) none
  have G1 := IJ W (N + 1) (.string ⟨#[]⟩) (.slice none 0 0)
  have p1 := putZ (.string ⟨#[]⟩) (.slice none 0 0) I1.out
  have p2 := (G1.block (N + 1 + 1) (q4A.1 I2.out).1 (by simp)).trans I2.out
  have p3 := rG (.bool false) p2
  have G2 := grownBy_setCell' ((W.setCell ⟨N + 1, 0, none⟩ (.string ⟨#[]⟩)).setCell ⟨N + 1, 1, none⟩ (.slice none 0 0)) (N + 1 + 1) (.bool false)
  have p4 := (G2.block (N + 1) (q4A.1 p1).1 (by simp)).trans p1
  have d1 := (G1.block D (q4A.1 HK.out).1 (by simp; omega)).trans HK.out
  have d2 := (G2.block D (q4A.1 d1).1 (by simp; omega)).trans d1
  have B2 := IB.out.grown G1 IB.out.size (fun k e => by cases e; omega)
  have B3 := B2.grown G2 B2.size (fun k e => by cases e; omega)
  have B4 := B3.alloc B3.size (.cells (aJ kE).toArray 44)
  refine uX (x := kE) (b := false) hN rfl rfl rfl ((Below.heap_alloc _ _ _ (q4A.1 p4).1).trans p4) ((Below.heap_alloc _ _ _ (q4A.1 p3).1).trans p3) hD0 ((Below.heap_alloc _ _ _ (q4A.1 d2).1).trans d2) B4 (fun w' hb => ⟨?_, hb⟩)
  rw [IP.out, nV IP.out]; rfl
 case stop =>
  rintro D c pre W hD hpre ⟨rfl, ⟨x, i1, hx⟩, i2, iB, hA⟩ hK
  rw [vS] at hD
  have hA' := hA hpre
  have hx' := hx hpre
  have E := hid (uX (R := fun e w' => e = .returned (.tuple #[zvV ((xs.find? p).getD kE), .bool (xs.any p)]) ∧ Below w.heap.size w w') (a := { tmps := #[.func (.func gf) #[] lb, .func (.func hf) #[] hc, undef, .pointer (some ⟨N, 0, none⟩), .pointer (some ⟨N + 1, 0, none⟩), .pointer (some ⟨N + 1 + 1, 0, none⟩), undef, undef, .func (.func gf) #[] lb, undef, undef, undef, undef, undef, undef], defers := [{ target := .collected D, args := #[] }] }) hN rfl rfl rfl i1 i2 (show N + 1 + 1 < D by omega) hK iB (fun w' hb => ⟨by rw [hA', hx']; rfl, hb⟩))
  clear v0 v1 v2 vB hV vS i1 i2 hK iB hA hA' hx hx' eg
  gi_wp2
  exact E.out
theorem IU (gf hf : Nat) (lb hc : Array Value) (p : ZV → Bool) (xs : List ZV) (w : World)
  (eg : ∀ args w, (callFunc gf args).run Tryz.prog w = .ok (.enter gf args) w) (eh : ∀ args w, (callFunc hf args).run Tryz.prog w = .ok (.enter hf args) w)
  (hseq : ∀ w1, Below w.heap.size w w1 → mM Fence.wide 3 Tryz.prog gf lb (fun x : ZV => #[zvV x]) (Below w.heap.size) (fun ys => ys = xs) (fun pre => pre <+: xs) w1)
  (hp : ∀ x ∈ xs, ∀ W, Below w.heap.size w W → Calls Tryz.prog hf (#[zvV x] ++ hc) W fun e W' => e = .returned (.bool (p x)) ∧ Below W.heap.size W W') :
  Calls Tryz.prog 106 #[.func (.func gf) #[] lb, .func (.func hf) #[] hc] w
   fun e w' => e = .returned (.bool (xs.any p)) ∧ Below w.heap.size w w' := by
 have C := hid (uW gf hf lb hc p xs w eg eh hseq hp)
 clear hseq hp
 obtain ⟨x, hx⟩ : ∃ x, (xs.find? p).getD kE = x := ⟨_, rfl⟩
 rw [hx] at C
 clear hx
 go_enter Tryz.func106, Tryz.ntmps106
 go_wp2_with fail
 refine C.out.mono ?_
 rintro e w1 ⟨rfl, hb⟩
 have HB := hid hb
 clear hb
 go_wp2
 go_ret
 exact ⟨rfl, HB.out.alloc HB.out.size _⟩
end
section
open Go.RowKit Go.Shelf

def gq : List Int → Bool
 | [] => true
 | [_] => true
 | a :: b :: r => decide (a < b) && gq (b :: r)
theorem BH {l : List Int} {k : Nat} {a b : Int} (ha : l[k]? = some a) (hb : l[k + 1]? = some b) : gq (l.drop k) = (decide (a < b) && gq (l.drop (k + 1))) := by
 rw [Sx.jZ ha, Sx.jZ hb]; rfl
theorem DU {l : List Int} {k : Nat} (h : l.length ≤ k + 1) : gq (l.drop k) = true := by
 have hl : (l.drop k).length ≤ 1 := by simp; omega
 match l.drop k, hl with
 | [], _ => rfl
 | [_], _ => rfl
 | _ :: _ :: _, h => simp at h
theorem zk (l : List Int) (v : Value) (w : World) (h : Hu w v l) (hl : l.length ≤ 10000) :
  Calls Tryz.prog 109 #[v] w fun e w' => e = .returned (.bool (gq l)) ∧ Below w.heap.size w w' := by
 obtain ⟨ra, rcap, rfl⟩ := bP h
 have H := hid h
 obtain ⟨R, hR⟩ : ∃ R, gq l = R := ⟨_, rfl⟩
 rw [hR]
 have HR : Hid (R = gq (l.drop 0)) := hR.symm
 clear h hR
 go_enter Tryz.func109, Tryz.ntmps109
 go_wp2_with fail
 go_loopw [3] (fun a wr => ∃ k : Nat, k ≤ l.length ∧ a = .int .i64 (k + 1) ∧ Hid (Below w.heap.size w wr) ∧ Hid (R = gq (l.drop k))) (fun a _ => l.length + 1 - (intOf a).toNat)
 case atStart => exact ⟨0, Nat.zero_le _, rfl, q4B _ _, HR⟩
 case round =>
  clear HR
  obtain ⟨k, hk, rfl, B0, HR⟩ := hrel
  by_cases hlt : k + 1 < l.length
  case neg =>
   have HR2 : Hid (R = true) := by show _ = _; rw [HR.out]; exact DU (by omega)
   have hn : ¬ ((k : Int) + 1 < (l.length : Int)) := by omega
   clear hlt
   go_wp2
   go_ret
   exact ⟨aC (by rw [HR2.out]), B0.out⟩
  obtain ⟨a, ha⟩ : ∃ a, l[k]? = some a := ⟨_, q4G (by omega)⟩
  obtain ⟨b, hb⟩ : ∃ b, l[k + 1]? = some b := ⟨_, q4G hlt⟩
  have HS := hid (BH ha hb)
  have RW := au H.out B0.out
  obtain ⟨rb, ro, rfl, hrb, hc⟩ := dx RW ha
  obtain ⟨rb', ro', e2, _, hc'⟩ := dx RW hb
  simp only [Option.some.injEq, Addr.mk.injEq] at e2
  obtain ⟨rfl, rfl, _⟩ := e2
  have c0 : wr.cell? ⟨rb, ro + k, none⟩ = some (.int .i64 a) := by have := hc 0 _ rfl; simpa using this
  have c1 : wr.cell? ⟨rb, ro + (k + 1), none⟩ = some (.int .i64 b) := by have := hc' 0 _ rfl; simpa using this
  have hp : (k : Int) + 1 < (l.length : Int) := by omega
  have hp2 : (k : Int) < (l.length : Int) := by omega
  clear hc hc' ha hb RW
  by_cases hab : a < b
  ·have hnb : ¬ b ≤ a := by omega
   have HR2 : Hid (R = gq (l.drop (k + 1))) := by show _ = _; rw [HR.out, HS.out, decide_eq_true hab]; rfl
   clear HR HS
   go_wp2_with fail
   go_quiet (fail)
   go_wp2
   go_roundw
   case rel => exact ⟨k + 1, by omega, by go_num, below_drewN B0.out _, HR2⟩
   case measure => simp [intOf]; omega
  ·have hnb : b ≤ a := by omega
   have HR2 : Hid (R = false) := by show _ = _; rw [HR.out, HS.out, decide_eq_false hab]; rfl
   clear HR HS
   go_wp2_with fail
   go_quiet (fail)
   go_wp2
   go_ret
   exact ⟨aC (by rw [HR2.out]), below_drewN B0.out _⟩
theorem FD (x : ZV) (w : World) (h : gQ w (.slice x.a x.z.eras.length x.c) x.z.eras) (hl : x.z.eras.length ≤ 1000) (hcp : x.z.eras.length ≤ x.c) (hok : ∀ e ∈ x.z.eras, e.opn = true ∨ kU e) :
  Calls Tryz.prog 108 #[zvV x] w fun e w' => e = .returned (.bool (!gq (fu x.z.eras))) ∧ Below w.heap.size w w' := by
 have BV := hid ((q4B w.heap.size w).alloc (Nat.le_refl _) (.cells (aJ x).toArray 44))
 have XV := aD w (aJ x) 44
 have sx := XV.1
 have C := hid (Ap x (w.alloc (.cells (aJ x).toArray 44)) (au h BV.out) hl hcp hok)
 have HL : Hid ((fu x.z.eras).length ≤ 10000) := by
  show _ ≤ _
  have h2 : (fu x.z.eras).length ≤ x.z.eras.length := by unfold fu; rw [List.length_map]; exact List.length_filter_le _ _
  omega
 clear XV h hl hcp hok
 go_enter Tryz.func108, Tryz.ntmps108
 go_wp2_with fail
 refine C.out.mono ?_
 rintro e w1 ⟨v, rfl, hown, hb⟩
 have B1 : Hid (Below w.heap.size w w1) := BV.out.trans (hb.mono BV.out.size)
 have R1 := hid (vM hown)
 obtain ⟨ra, rcap, rfl⟩ := bP R1.out
 clear hown hb
 go_wp2_with fail
 refine (zk _ _ _ R1.out HL.out).mono ?_
 rintro e w2 ⟨rfl, hb⟩
 have B2 : Hid (Below w.heap.size w w2) := B1.out.trans (hb.mono B1.out.size)
 clear hb
 go_wp2
 go_ret
 exact ⟨rfl, B2.out⟩
def yS (xs : List ZV) : Int := if (xs.any fun p => !gq (fu p.z.eras)) = true then 4 else 0
theorem wR (zs : List Sx.Zn) (xs : List ZV) (rv lv : Value) (ra za la : Option Addr) (n1 n3 rcap zcap lcap : Nat) (w : World) (h2 : jr w (.slice za xs.length zcap) zs xs) (hx : xs.length ≤ 10000) (he : ∀ p ∈ xs, p.z.eras.length ≤ 1000) (hok : ∀ p ∈ xs, ∀ e ∈ p.z.eras, e.opn = true ∨ kU e) :
  Calls Tryz.prog 46 #[.agg #[.slice ra n1 rcap, .slice za xs.length zcap, .slice la n3 lcap]] w fun e w' => e = .returned (.int .i64 (yS xs)) ∧ Below w.heap.size w w' := by
 have BV := hid ((q4B w.heap.size w).alloc (Nat.le_refl _) (.cells [.slice ra n1 rcap, .slice za xs.length zcap, .slice la n3 lcap].toArray 26))
 obtain ⟨V, hV⟩ : ∃ V, w.alloc (.cells #[.slice ra n1 rcap, .slice za xs.length zcap, .slice la n3 lcap] 26) = V := ⟨_, rfl⟩
 have hV' : w.alloc (.cells [.slice ra n1 rcap, .slice za xs.length zcap, .slice la n3 lcap].toArray 26) = V := hV
 have XV := aD w [.slice ra n1 rcap, .slice za xs.length zcap, .slice la n3 lcap] 26
 rw [hV'] at BV XV
 obtain ⟨x1, _⟩ := aa XV 1 rfl
 have sx := XV.1
 clear XV
 have R2 := fK h2 BV.out
 have e1 : ∀ args w, (callFunc 108 args).run Tryz.prog w = .ok (.enter 108 args) w := enters_of Tryz.func108 (by kernel_rfl) rfl
 have eZ : ∀ args w, (callFunc 161 args).run Tryz.prog w = .ok (.enter 161 args) w := enters_of Tryz.func161 (by kernel_rfl) rfl
 have hWL : Below V.heap.size V (V.alloc (.cells #[.slice za xs.length zcap] 23)) := (q4B V.heap.size V).alloc (Nat.le_refl _) _
 have C1 := hid (IU 161 108 #[.pointer (some ⟨V.heap.size, 0, none⟩)] #[] (fun p => !gq (fu p.z.eras)) xs (V.alloc (.cells #[.slice za xs.length zcap] 23)) eZ e1
   (fun w1 hw1 => yL 3 V.heap.size (by omega) xs za zcap (V.alloc (.cells #[.slice za xs.length zcap] 23)) w1 (au R2.rd hWL) hx ((hw1.cell (p := ⟨V.heap.size, 0, none⟩) (by simp)).trans (aa (aD V [.slice za xs.length zcap] 23) 0 rfl).1) (q4N (by simp) hw1.size) hw1)
   (fun x hxx W' hW' => by
    have hh := hWL.trans (hW'.mono hWL.size)
    exact FD x W' (au (R2.eras x hxx) hh) (he x hxx) (R2.cap x hxx) (hok x hxx)))
 have HTE : Hid (yS xs = if (xs.any fun p => !gq (fu p.z.eras)) = true then 4 else 0) := rfl
 obtain ⟨A, hA⟩ : ∃ A, (xs.any fun p => !gq (fu p.z.eras)) = A := ⟨_, rfl⟩
 rw [hA] at C1 HTE
 clear R2 h2 hx he e1 eZ hV' hok hA hWL
 go_enter Tryz.func46, Tryz.ntmps46
 go_wp2_with fail
 refine (rT _ _ _ _).mono ?_
 rintro e w1 ⟨rfl, rfl⟩
 go_wp2_with fail
 refine C1.out.mono ?_
 rintro e w2 ⟨rfl, hb⟩
 have HB2 : Hid (Below V.heap.size V w2) := ((q4B V.heap.size V).alloc (Nat.le_refl _) _).trans (hb.mono (by simp))
 clear hb C1
 cases A
 all_goals
  go_wp2
  go_ret
  exact ⟨ay (by rw [HTE.out]; rfl), BV.out.trans (HB2.out.mono BV.out.size)⟩
end
section
open Go.RowKit Go.Shelf
attribute [local go_sem] Oper.semAt_some

def lD : Sx.Lk := ⟨[], []⟩
theorem putL {W : World} {b : Nat} {t : TypeId} {c0 c1 : Value} (v0 v1 : Value) (h : W.heap[b]? = some (.cells #[c0, c1] t)) :
  (((W.setCell ⟨b, 0, none⟩ (v0)).setCell ⟨b, 1, none⟩ (v1))).heap[b]? = some (.cells #[v0, v1] t) := by
 have e := dR (dR h 0 v0) 1 v1
 simp only [List.setIfInBounds_toArray, List.set_cons_zero, List.set_cons_succ] at e
 exact e
theorem II (W : World) (b : Nat) (v0 v1 : Value) : W.grownBy ((W.setCell ⟨b, 0, none⟩ (v0)).setCell ⟨b, 1, none⟩ (v1)) (some b) := (grown_put (grown_put (j6 W b) 0 v0) 1 v1)
theorem uV {w W : World} {N D : Nat} {a : Act} {x : Sx.Lk} {b : Bool} {R : Ending → World → Prop} (hN : w.heap.size = N) (h4 : a.tmps.getD 4 undef = .pointer (some ⟨N + 1, 0, none⟩)) (h5 : a.tmps.getD 5 undef = .pointer (some ⟨N + 1 + 1, 0, none⟩)) (hd : a.defers = [{ target := .collected D, args := #[] }])
  (i1 : W.heap[N + 1]? = some (.cells (aH x).toArray 35)) (i2 : W.heap[N + 1 + 1]? = some (.cells #[.bool b] 4)) (hD : N + 1 + 1 < D) (hK : W.heap[D]? = some (.deferred (some []))) (hB : Below w.heap.size w W) (hR : ∀ w', Below w.heap.size w w' → R (.returned (.tuple #[jA x, .bool b])) w') :
  bodyPostM Fence.wide 4 Tryz.prog Tryz.f115 R .ret a W := by
 obtain ⟨tm, df⟩ := a
 dsimp only at h4 h5 hd
 subst hd
 rw [Array.getD_eq_getD_getElem?] at h4 h5
 have hX := belowK_b (w := w) (Nat.le_refl _) W D _ (.deferred none) (by omega) hK rfl rfl
 have j1 : (W.putObj D (.deferred none)).heap[N + 1]? = some (.cells (aH x).toArray 35) := (World.putObj_heap_other (by omega)).trans i1
 have j2 : (W.putObj D (.deferred none)).heap[N + 1 + 1]? = some (.cells #[.bool b] 4) := (World.putObj_heap_other (by omega)).trans i2
 refine ⟨by simp, .inl ⟨_, _, rfl, run_takeDeferred hK, ?_⟩⟩
 have BX := hid (hR _ (hB.trans hX))
 generalize W.putObj D (.deferred none) = X at j1 j2 BX ⊢
 obtain ⟨⟨y0, _⟩, ⟨y1, _⟩, -⟩ := cp2 (aj j1)
 have b0 := (aa (aj (vs := [.bool b]) j2) 0 rfl).1
 clear j1 j2 i1 i2 hK hB hX hR
 refine ⟨.tuple #[jA x, .bool b], ?_, BX.out⟩
 simp [results, Tryz.results115, go_sem, *]
theorem uU (gf hf : Nat) (lb hc : Array Value) (p : Sx.Lk → Bool) (xs : List Sx.Lk) (w : World)
  (eg : ∀ args w, (callFunc gf args).run Tryz.prog w = .ok (.enter gf args) w) (eh : ∀ args w, (callFunc hf args).run Tryz.prog w = .ok (.enter hf args) w)
  (hseq : ∀ w1, Below w.heap.size w w1 → mM Fence.wide 3 Tryz.prog gf lb (fun x : Sx.Lk => #[jA x]) (Below w.heap.size) (fun ys => ys = xs) (fun pre => pre <+: xs) w1)
  (hp : ∀ x ∈ xs, ∀ W, Below w.heap.size w W → Calls Tryz.prog hf (#[jA x] ++ hc) W fun e W' => e = .returned (.bool (p x)) ∧ Below W.heap.size W W') :
  Calls Tryz.prog 115 #[.func (.func gf) #[] lb, .func (.func hf) #[] hc] w
   fun e w' => e = .returned (.tuple #[jA ((xs.find? p).getD lD), .bool (xs.any p)]) ∧ Below w.heap.size w w' := by
 refine (callsIn_wide (n := 4)).1 ?_
 refine callsIn_of_wp_marks Tryz.func115 rfl trivial ?_ rfl
 simp only [Tryz.ntmps115, List.size_toArray, List.length_cons, List.length_nil, Nat.reduceAdd, Nat.reduceSub, Array.replicate_succ, Array.replicate_zero, List.push_toArray, List.append_toArray, List.nil_append, List.cons_append]
 have HP := hid hp
 have HQ := hid hseq
 clear hp hseq
 gi_wp2
 obtain ⟨N, hN⟩ : ∃ N, w.heap.size = N := ⟨_, rfl⟩
 obtain ⟨V, hV⟩ : ∃ V, (((w.alloc (.cells #[.func (.func hf) #[] hc] 162)).alloc (.cells (aH lD).toArray 35)).alloc (.cells #[.bool false] 4)) = V := ⟨_, rfl⟩
 rw [show (((w.alloc (.cells #[.func (.func hf) #[] hc] 162)).alloc (.cells #[.string ⟨#[]⟩, .string ⟨#[]⟩] 35)).alloc (.cells #[.bool false] 4)) = V from hV]
 have vS : V.heap.size = N + 3 := by rw [← hV, ← hN]; simp
 have v0 : V.heap[N]? = some (.cells #[.func (.func hf) #[] hc] 162) := by
  rw [← hV, Below.heap_alloc _ _ _ (by simp; omega), Below.heap_alloc _ _ _ (by simp; omega), ← hN]; exact World.alloc_heap_new w _
 have v1 : V.heap[N + 1]? = some (.cells (aH lD).toArray 35) := by
  rw [← hV, Below.heap_alloc _ _ _ (by simp; omega), ← hN]
  have := World.alloc_heap_new (w.alloc (.cells #[.func (.func hf) #[] hc] 162)) (.cells (aH lD).toArray 35)
  rwa [World.size_alloc] at this
 have v2 : V.heap[N + 1 + 1]? = some (.cells #[.bool false] 4) := by
  rw [← hV, ← hN]
  have := World.alloc_heap_new ((w.alloc (.cells #[.func (.func hf) #[] hc] 162)).alloc (.cells (aH lD).toArray 35)) (.cells #[.bool false] 4)
  rwa [World.size_alloc, World.size_alloc] at this
 have vB : Below w.heap.size w V := by
  rw [← hV]; exact (((q4B _ w).alloc (Nat.le_refl _) _).alloc (by simp) _).alloc (by simp; omega) _
 rw [hN]
 refine gP rfl (by omega) (gf := gf) (lb := lb) rfl trivial eg
  (oo (HQ.out V vB)) (fun h k => h.trans k) (belowK_b (by omega)) (q4B _ _) (fun _ => rfl)
  (fun (pre : List Sx.Lk) W => (W.heap[N]? = some (.cells #[.func (.func hf) #[] hc] 162) ∧ W.heap[N + 1]? = some (.cells (aH lD).toArray 35) ∧ W.heap[N + 1 + 1]? = some (.cells #[.bool false] 4)) ∧ Below w.heap.size w W ∧ pre.any p = false)
  (fun c (pre : List Sx.Lk) W => c = .ret ∧ (∃ x, W.heap[N + 1]? = some (.cells (aH x).toArray 35) ∧ (pre <+: xs → xs.find? p = some x)) ∧ W.heap[N + 1 + 1]? = some (.cells #[.bool true] 4) ∧ Below w.heap.size w W ∧ (pre <+: xs → xs.any p = true))
  (bX.and (bX.and (aV (by omega)) (bX.and (aV (by omega)) (aV (by omega)))) (bX.and (eY (Nat.le_refl _) (by omega)) (bN _)))
  (fun c => bX.and (bN _) (bX.and (uh fun x => bX.and (aV (by omega)) (bN _)) (bX.and (aV (by omega)) (bX.and (eY (Nat.le_refl _) (by omega)) (bN _)))))
  ⟨⟨v0, v1, v2⟩, vB, rfl⟩
  (fun x a' W => ∃ Bx, N + 1 + 1 < Bx ∧ W.heap[Bx]? = some (.cells (aH x).toArray 35 (0, 0)) ∧ a' = { tmps := #[.func (.func gf) #[] lb, .func (.func hf) #[] hc, undef, .pointer (some ⟨N, 0, none⟩), .pointer (some ⟨N + 1, 0, none⟩), .pointer (some ⟨N + 1 + 1, 0, none⟩), .pointer (some ⟨Bx, 0, none⟩), undef, .func (.func gf) #[] lb, jA x, undef, undef, undef, undef, undef], defers := [] })
  ?hAx ?assign ?body ?done ?stop
 case hAx =>
  rintro x a' _ X Y row ⟨Bx, q1, q2, q3⟩ hg hr
  refine ⟨Bx, q1, ?_, q3⟩
  rw [hg.block Bx (q4A.1 q2).1 (fun e => by obtain ⟨_, o, ho, hc⟩ := hr Bx e.symm; rw [q2] at ho; cases ho; simp [Obj.isCells] at hc)]
  exact q2
 case assign =>
  rintro l pre x W K ⟨⟨i0, i1, i2⟩, iB, iP⟩ sz hK
  rw [vS] at sz
  have KB := hid ((q4B W.heap.size W).alloc (Nat.le_refl _) (.cells (aH x).toArray 35))
  have R := hid (hK { tmps := #[.func (.func gf) #[] lb, .func (.func hf) #[] hc, undef, .pointer (some ⟨N, 0, none⟩), .pointer (some ⟨N + 1, 0, none⟩), .pointer (some ⟨N + 1 + 1, 0, none⟩), .pointer (some ⟨W.heap.size, 0, none⟩), undef, .func (.func gf) #[] lb, jA x, undef, undef, undef, undef, undef], defers := [] } (W.alloc (.cells (aH x).toArray 35)) ((KeepsOthers.alloc _ _).from _) (KB.out.mono iB.size)
   ⟨⟨(KB.out.block _ (q4A.1 i0).1).trans i0, (KB.out.block _ (q4A.1 i1).1).trans i1, (KB.out.block _ (q4A.1 i2).1).trans i2⟩, iB.alloc iB.size _, iP⟩ ⟨W.heap.size, by omega, World.alloc_heap_new W _, rfl⟩)
  clear hK i0 i1 i2
  gi_wp2
  exact R.out
 case body =>
  rintro l pre x a' W hl ⟨r, hr⟩ ⟨⟨i0, i1, i2⟩, iB, iP⟩ ⟨Bx, hBx, hX, rfl⟩ hpx sz
  have HC := hid (HP.out x (fI hpx) W iB)
  obtain ⟨⟨x0, _⟩, ⟨x1, _⟩, -⟩ := cp2 (aj hX)
  have f0 := (aa (aj (vs := [.func (.func hf) #[] hc]) i0) 0 rfl).1
  have sx := (q4A.1 hX).1
  have s0 := (q4A.1 i0).1
  have HX := hid hX
  have I0 := hid i0
  have I1 := hid i1
  have I2 := hid i2
  have IB := hid iB
  have HPX := hid hpx
  clear hX i0 i1 i2 iB hr hpx
  obtain ⟨C, hC⟩ : ∃ C, p x = C := ⟨_, rfl⟩
  rw [hC] at HC
  have HCC := hid hC
  have IP := hid iP
  have SV : Hid (V.heap.size = N + 3 ∧ w.heap.size = N) := ⟨vS, hN⟩
  clear hC iP
  cases C
  case false =>
   gi_wp2_with fail
   refine ⟨trivial, (CallsIn.inRound l (callsIn_wide.2 HC.out)).mono ?_⟩
   rintro e w1 ⟨rfl, hb⟩
   gi_wp2
   refine ⟨(cO hb).from _, hb.mono IB.out.size, ⟨(hb.block _ (q4A.1 I0.out).1).trans I0.out, (hb.block _ (q4A.1 I1.out).1).trans I1.out, (hb.block _ (q4A.1 I2.out).1).trans I2.out⟩, IB.out.trans (hb.mono IB.out.size), ?_⟩
   rw [List.any_append, IP.out]; simp [HCC.out]
  case true =>
   gi_wp2_with fail
   refine ⟨trivial, (CallsIn.inRound l (callsIn_wide.2 HC.out)).mono ?_⟩
   rintro e w1 ⟨rfl, hb⟩
   have HB := hid hb
   have CX := ai (aj HX.out) hb
   obtain ⟨y0, _⟩ := aa CX 0 rfl; obtain ⟨y1, _⟩ := aa CX 1 rfl
   have CR := ai (aj I1.out) hb
   obtain ⟨r0, q0⟩ := aa CR 0 rfl; obtain ⟨r1, q1⟩ := aa CR 1 rfl
   have CB := ai (aj (vs := [.bool false]) I2.out) hb
   obtain ⟨b0, b1⟩ := aa CB 0 rfl
   have sR := CR.1
   have sB := CB.1
   clear hb CX CR CB
   gi_wp2
   have G1 := II w1 (N + 1) (ag x.to) (ag x.name)
   have hb := HB.out
   have e1 := (hb.block _ (q4A.1 I1.out).1).trans I1.out
   have e2 := (hb.block _ (q4A.1 I2.out).1).trans I2.out
   have p1 := putL (ag x.to) (ag x.name) e1
   have p2 := (G1.block (N + 1 + 1) (q4A.1 e2).1 (by simp)).trans e2
   have p3 := rG (.bool true) p2
   have G2 := grownBy_setCell' ((w1.setCell ⟨N + 1, 0, none⟩ (ag x.to)).setCell ⟨N + 1, 1, none⟩ (ag x.name)) (N + 1 + 1) (.bool true)
   have B1 := IB.out.trans (hb.mono IB.out.size)
   have B2 := B1.grown G1 B1.size (fun k e => by cases e; have := SV.out; omega)
   have B3 := B2.grown G2 B2.size (fun k e => by cases e; have := SV.out; omega)
   refine ⟨(((cO hb).trans (dW G1 e1)).trans (dW G2 p2)).from _, rfl, ⟨x, ?_, fun q => (jR q IP.out HCC.out).1⟩, p3, B3, fun q => (jR q IP.out HCC.out).2⟩
   exact (G2.block (N + 1) (q4A.1 p1).1 (by simp)).trans p1
 case done =>
  rintro D ys W hD rfl ⟨⟨i0, i1, i2⟩, iB, iP⟩ hK
  rw [vS] at hD
  have hD0 : N + 1 + 1 < D := by omega
  have CR := aj i1
  have CB := aj (vs := [.bool false]) i2
  obtain ⟨⟨r0, q0⟩, ⟨r1, q1⟩, -⟩ := cp2 CR
  obtain ⟨b0, b1⟩ := aa CB 0 rfl
  have sR := CR.1
  have sB := CB.1
  have HK := hid hK
  have IB := hid iB
  have IP := hid iP
  have I1 := hid i1
  have I2 := hid i2
  clear i0 i1 i2 CR CB hK iB iP v0 v1 v2 vB hV vS eg
  gi_wp2
  have G0 := World.grownBy_alloc W (.cells (aH lD).toArray 35) none
  have G1 := II W (N + 1) (.string ⟨#[]⟩) (.string ⟨#[]⟩)
  have p1 := putL (.string ⟨#[]⟩) (.string ⟨#[]⟩) I1.out
  have p2 := (G1.block (N + 1 + 1) (q4A.1 I2.out).1 (by simp)).trans I2.out
  have p3 := rG (.bool false) p2
  have G2 := grownBy_setCell' ((W.setCell ⟨N + 1, 0, none⟩ (.string ⟨#[]⟩)).setCell ⟨N + 1, 1, none⟩ (.string ⟨#[]⟩)) (N + 1 + 1) (.bool false)
  have p4 := (G2.block (N + 1) (q4A.1 p1).1 (by simp)).trans p1
  have d1 := (G1.block D (q4A.1 HK.out).1 (by simp; omega)).trans HK.out
  have d2 := (G2.block D (q4A.1 d1).1 (by simp; omega)).trans d1
  have B2 := IB.out.grown G1 IB.out.size (fun k e => by cases e; omega)
  have B3 := B2.grown G2 B2.size (fun k e => by cases e; omega)
  have B4 := B3.alloc B3.size (.cells (aH lD).toArray 35)
  refine uV (x := lD) (b := false) hN rfl rfl rfl ((Below.heap_alloc _ _ _ (q4A.1 p4).1).trans p4) ((Below.heap_alloc _ _ _ (q4A.1 p3).1).trans p3) hD0 ((Below.heap_alloc _ _ _ (q4A.1 d2).1).trans d2) B4 (fun w' hb => ⟨?_, hb⟩)
  rw [IP.out, nV IP.out]; rfl
 case stop =>
  rintro D c pre W hD hpre ⟨rfl, ⟨x, i1, hx⟩, i2, iB, hA⟩ hK
  rw [vS] at hD
  have hA' := hA hpre
  have hx' := hx hpre
  have E := hid (uV (R := fun e w' => e = .returned (.tuple #[jA ((xs.find? p).getD lD), .bool (xs.any p)]) ∧ Below w.heap.size w w') (a := { tmps := #[.func (.func gf) #[] lb, .func (.func hf) #[] hc, undef, .pointer (some ⟨N, 0, none⟩), .pointer (some ⟨N + 1, 0, none⟩), .pointer (some ⟨N + 1 + 1, 0, none⟩), undef, undef, .func (.func gf) #[] lb, undef, undef, undef, undef, undef, undef], defers := [{ target := .collected D, args := #[] }] }) hN rfl rfl rfl i1 i2 (show N + 1 + 1 < D by omega) hK iB (fun w' hb => ⟨by rw [hA', hx']; rfl, hb⟩))
  clear v0 v1 v2 vB hV vS i1 i2 hK iB hA hA' hx hx' eg
  gi_wp2
  exact E.out
theorem IQ (gf hf : Nat) (lb hc : Array Value) (p : Sx.Lk → Bool) (xs : List Sx.Lk) (w : World)
  (eg : ∀ args w, (callFunc gf args).run Tryz.prog w = .ok (.enter gf args) w) (eh : ∀ args w, (callFunc hf args).run Tryz.prog w = .ok (.enter hf args) w)
  (hseq : ∀ w1, Below w.heap.size w w1 → mM Fence.wide 3 Tryz.prog gf lb (fun x : Sx.Lk => #[jA x]) (Below w.heap.size) (fun ys => ys = xs) (fun pre => pre <+: xs) w1)
  (hp : ∀ x ∈ xs, ∀ W, Below w.heap.size w W → Calls Tryz.prog hf (#[jA x] ++ hc) W fun e W' => e = .returned (.bool (p x)) ∧ Below W.heap.size W W') :
  Calls Tryz.prog 103 #[.func (.func gf) #[] lb, .func (.func hf) #[] hc] w
   fun e w' => e = .returned (.bool (xs.any p)) ∧ Below w.heap.size w w' := by
 have C := hid (uU gf hf lb hc p xs w eg eh hseq hp)
 clear hseq hp
 obtain ⟨x, hx⟩ : ∃ x, (xs.find? p).getD lD = x := ⟨_, rfl⟩
 rw [hx] at C
 clear hx
 go_enter Tryz.func103, Tryz.ntmps103
 go_wp2_with fail
 refine C.out.mono ?_
 rintro e w1 ⟨rfl, hb⟩
 have HB := hid hb
 clear hb
 go_wp2
 go_ret
 exact ⟨rfl, HB.out.alloc HB.out.size _⟩
end
section
open Go.RowKit Go.Shelf

theorem Df (hf : Nat) (hc : Array Value) (p : ZV → Bool) (xs : List ZV) (ra : Option Addr) (rcap : Nat) (w : World) (h : Rd 2 aJ w (.slice ra xs.length rcap) xs) (hxs : xs.length ≤ 10000)
  (eh : ∀ args w, (callFunc hf args).run Tryz.prog w = .ok (.enter hf args) w)
  (hp : ∀ x ∈ xs, ∀ W, Below w.heap.size w W → Calls Tryz.prog hf (#[zvV x] ++ hc) W fun e W' => e = .returned (.bool (p x)) ∧ Below W.heap.size W W') :
  Calls Tryz.prog 158 #[.slice ra xs.length rcap, .func (.func hf) #[] hc] w fun e w' => ∃ r : Int, e = .returned (.int .i64 r) ∧ decide (0 ≤ r) = xs.any p ∧ Below w.heap.size w w' := by
 have H := hid h
 have HP := hid hp
 have HA : Hid ((xs.take 0).any p = false) := rfl
 clear h hp
 go_enter Tryz.func158, Tryz.ntmps158
 go_wp2_with fail
 go_loopw [8] (fun a wr => ∃ k : Nat, k ≤ xs.length ∧ a = .int .i64 k ∧ Hid (Below w.heap.size w wr) ∧ Hid ((xs.take k).any p = false)) (fun a _ => xs.length - (intOf a).toNat)
 case atStart => exact ⟨0, by omega, rfl, q4B _ _, HA⟩
 case round =>
  clear HA
  obtain ⟨k, hk, rfl, B0, HA⟩ := hrel
  by_cases hlt : k < xs.length
  case neg =>
   have e : xs.take k = xs := List.take_of_length_le (by omega)
   rw [e] at HA
   go_wp2
   go_ret
   exact ⟨-1, rfl, by rw [HA.out]; rfl, B0.out⟩
  obtain ⟨x, hx⟩ : ∃ x, xs[k]? = some x := ⟨_, q4G hlt⟩
  obtain ⟨rb, ro, rfl, hrb, hc'⟩ := dx (au H.out B0.out) hx
  have c0 : wr.cell? ⟨rb, ro + k * 2, none⟩ = some (ag x.z.name) := hc' 0 _ rfl
  have c1 : wr.cell? ⟨rb, ro + k * 2 + 1, none⟩ = some (.slice x.a x.z.eras.length x.c) := hc' 1 _ rfl
  have HX := hid (HP.out x (List.mem_of_getElem? hx) wr B0.out)
  have HS := hid (Sx.dm hx)
  have HI : Hid (xs.any p = true ∨ p x = false) := by
   show _ ∨ _
   cases q : p x
   ·exact .inr rfl
   ·exact .inl (List.any_eq_true.2 ⟨x, List.mem_of_getElem? hx, q⟩)
  obtain ⟨E, hE⟩ : ∃ E, p x = E := ⟨_, rfl⟩
  rw [hE] at HX HI
  have HE := hid hE
  clear hx hc' hE
  go_wp2_with fail
  refine HX.out.mono ?_
  rintro e w1 ⟨rfl, hb⟩
  have B1 : Hid (Below w.heap.size w w1) := B0.out.trans (hb.mono B0.out.size)
  clear hb B0 hrb c0 c1
  cases E
  case true =>
   go_wp2
   go_ret
   exact ⟨k, rfl, by rw [HI.out.resolve_right (by decide)]; simp, B1.out⟩
  case false =>
   have HA2 : Hid ((xs.take (k + 1)).any p = false) := by show _ = _; rw [HS.out, List.any_append, HA.out]; simp [HE.out]
   clear HA
   go_wp2
   go_roundw
   case rel => exact ⟨k + 1, by omega, by go_num, B1, HA2⟩
   case measure => simp [intOf]; omega
theorem wT (hf : Nat) (hc : Array Value) (p : ZV → Bool) (xs : List ZV) (ra : Option Addr) (rcap : Nat) (w : World) (h : Rd 2 aJ w (.slice ra xs.length rcap) xs) (hxs : xs.length ≤ 10000)
  (eh : ∀ args w, (callFunc hf args).run Tryz.prog w = .ok (.enter hf args) w)
  (hp : ∀ x ∈ xs, ∀ W, Below w.heap.size w W → Calls Tryz.prog hf (#[zvV x] ++ hc) W fun e W' => e = .returned (.bool (p x)) ∧ Below W.heap.size W W') :
  Calls Tryz.prog 98 #[.slice ra xs.length rcap, .func (.func hf) #[] hc] w fun e w' => e = .returned (.bool (xs.any p)) ∧ Below w.heap.size w w' := by
 have C := hid (Df hf hc p xs ra rcap w h hxs eh hp)
 clear h hp
 go_enter Tryz.func98, Tryz.ntmps98
 go_wp2_with fail
 refine C.out.mono ?_
 rintro e w1 ⟨r, rfl, hr, hb⟩
 have HR := hid hr
 clear hr
 go_wp2
 go_ret
 exact ⟨aC HR.out, hb⟩
theorem De (hf : Nat) (hc : Array Value) (p : Sx.Rl → Bool) (xs : List Sx.Rl) (ra : Option Addr) (rcap : Nat) (w : World) (h : bY w (.slice ra xs.length rcap) xs) (hxs : xs.length ≤ 10000)
  (eh : ∀ args w, (callFunc hf args).run Tryz.prog w = .ok (.enter hf args) w)
  (hp : ∀ x ∈ xs, ∀ W, Below w.heap.size w W → Calls Tryz.prog hf (#[nG x] ++ hc) W fun e W' => e = .returned (.bool (p x)) ∧ Below W.heap.size W W') :
  Calls Tryz.prog 159 #[.slice ra xs.length rcap, .func (.func hf) #[] hc] w fun e w' => ∃ r : Int, e = .returned (.int .i64 r) ∧ decide (0 ≤ r) = xs.any p ∧ Below w.heap.size w w' := by
 have H := hid h
 have HP := hid hp
 have HA : Hid ((xs.take 0).any p = false) := rfl
 clear h hp
 go_enter Tryz.func159, Tryz.ntmps159
 go_wp2_with fail
 go_loopw [8] (fun a wr => ∃ k : Nat, k ≤ xs.length ∧ a = .int .i64 k ∧ Hid (Below w.heap.size w wr) ∧ Hid ((xs.take k).any p = false)) (fun a _ => xs.length - (intOf a).toNat)
 case atStart => exact ⟨0, by omega, rfl, q4B _ _, HA⟩
 case round =>
  clear HA
  obtain ⟨k, hk, rfl, B0, HA⟩ := hrel
  by_cases hlt : k < xs.length
  case neg =>
   have e : xs.take k = xs := List.take_of_length_le (by omega)
   rw [e] at HA
   go_wp2
   go_ret
   exact ⟨-1, rfl, by rw [HA.out]; rfl, B0.out⟩
  obtain ⟨x, hx⟩ : ∃ x, xs[k]? = some x := ⟨_, q4G hlt⟩
  obtain ⟨rb, ro, rfl, hrb, hc'⟩ := dx (au H.out B0.out) hx
  obtain ⟨c0, c1, c2, c3, c4, c5, c6, c7, c8, c9, c10⟩ := uj hc'
  have HX := hid (HP.out x (List.mem_of_getElem? hx) wr B0.out)
  have HS := hid (Sx.dm hx)
  have HI : Hid (xs.any p = true ∨ p x = false) := by
   show _ ∨ _
   cases q : p x
   ·exact .inr rfl
   ·exact .inl (List.any_eq_true.2 ⟨x, List.mem_of_getElem? hx, q⟩)
  obtain ⟨E, hE⟩ : ∃ E, p x = E := ⟨_, rfl⟩
  rw [hE] at HX HI
  have HE := hid hE
  clear hx hc' hE
  go_wp2_with fail
  refine HX.out.mono ?_
  rintro e w1 ⟨rfl, hb⟩
  have B1 : Hid (Below w.heap.size w w1) := B0.out.trans (hb.mono B0.out.size)
  clear hb B0 hrb c0 c1 c2 c3 c4 c5 c6 c7 c8 c9 c10
  cases E
  case true =>
   go_wp2
   go_ret
   exact ⟨k, rfl, by rw [HI.out.resolve_right (by decide)]; simp, B1.out⟩
  case false =>
   have HA2 : Hid ((xs.take (k + 1)).any p = false) := by show _ = _; rw [HS.out, List.any_append, HA.out]; simp [HE.out]
   clear HA
   go_wp2
   go_roundw
   case rel => exact ⟨k + 1, by omega, by go_num, B1, HA2⟩
   case measure => simp [intOf]; omega
theorem wS (hf : Nat) (hc : Array Value) (p : Sx.Rl → Bool) (xs : List Sx.Rl) (ra : Option Addr) (rcap : Nat) (w : World) (h : bY w (.slice ra xs.length rcap) xs) (hxs : xs.length ≤ 10000)
  (eh : ∀ args w, (callFunc hf args).run Tryz.prog w = .ok (.enter hf args) w)
  (hp : ∀ x ∈ xs, ∀ W, Below w.heap.size w W → Calls Tryz.prog hf (#[nG x] ++ hc) W fun e W' => e = .returned (.bool (p x)) ∧ Below W.heap.size W W') :
  Calls Tryz.prog 101 #[.slice ra xs.length rcap, .func (.func hf) #[] hc] w fun e w' => e = .returned (.bool (xs.any p)) ∧ Below w.heap.size w w' := by
 have C := hid (De hf hc p xs ra rcap w h hxs eh hp)
 clear h hp
 go_enter Tryz.func101, Tryz.ntmps101
 go_wp2_with fail
 refine C.out.mono ?_
 rintro e w1 ⟨r, rfl, hr, hb⟩
 have HR := hid hr
 clear hr
 go_wp2
 go_ret
 exact ⟨aC HR.out, hb⟩

theorem Cb (x : ZV) (B : Nat) (l : Sx.Lk) (w : World) (hB : B < w.heap.size) (h : w.cell? ⟨B, 0, none⟩ = some (ag l.to)) :
  Calls Tryz.prog 99 #[zvV x, .pointer (some ⟨B, 0, none⟩)] w fun e w' => e = .returned (.bool (x.z.name == l.to)) ∧ Below w.heap.size w w' := by
 have BV := hid ((q4B w.heap.size w).alloc (Nat.le_refl _) (.cells (aJ x).toArray 44))
 have XV := aD w (aJ x) 44
 obtain ⟨x0, _⟩ := aa XV 0 rfl
 have y0 := (BV.out.cell (p := ⟨B, 0, none⟩) hB).trans h
 have sx := XV.1
 have sB : B < (w.alloc (.cells (aJ x).toArray 44)).heap.size := q4N hB BV.out.size
 clear XV
 go_enter Tryz.func99, Tryz.ntmps99
 go_wp2
 go_ret
 exact ⟨rfl, BV.out⟩
theorem Cc (x : Sx.Rl) (B : Nat) (rl : Tx.Bs) (w : World) (hB : B < w.heap.size) (h : w.cell? ⟨B, 1, none⟩ = some (ag rl)) :
  Calls Tryz.prog 102 #[nG x, .pointer (some ⟨B, 0, none⟩)] w fun e w' => e = .returned (.bool (x.name == rl)) ∧ Below w.heap.size w w' := by
 have BV := hid ((q4B w.heap.size w).alloc (Nat.le_refl _) (.cells (ah x).toArray 40))
 have XV := aD w (ah x) 40
 obtain ⟨x0, _⟩ := aa XV 0 rfl
 have y0 := (BV.out.cell (p := ⟨B, 1, none⟩) hB).trans h
 have sx := XV.1
 have sB : B < (w.alloc (.cells (ah x).toArray 40)).heap.size := q4N hB BV.out.size
 clear XV
 go_enter Tryz.func102, Tryz.ntmps102
 go_wp2
 go_ret
 exact ⟨rfl, BV.out⟩
/- the links that are astray, the eras that lack rules -/
def nT (xs : List ZV) (l : Sx.Lk) : Bool := !xs.any fun q => q.z.name == l.to
def l5 (rs : List Sx.Rl) (x : Sx.Er) : Bool := !x.rules.isEmpty && !rs.any fun r => r.name == x.rules
def wB (rs : List Sx.Rl) (ls : List Sx.Lk) (xs : List ZV) : Int := if (ls.any (nT xs) || (aS xs).any (l5 rs)) = true then 5 else 0
theorem Ea (xs : List ZV) (Bs : Nat) (l : Sx.Lk) (za : Option Addr) (zcap : Nat) (w : World) (h : Rd 2 aJ w (.slice za xs.length zcap) xs) (hxs : xs.length ≤ 10000) (hB : Bs < w.heap.size) (c1 : w.cell? ⟨Bs, 1, none⟩ = some (.slice za xs.length zcap)) :
  Calls Tryz.prog 97 #[jA l, .pointer (some ⟨Bs, 0, none⟩)] w fun e w' => e = .returned (.bool (nT xs l)) ∧ Below w.heap.size w w' := by
 have BV := hid ((q4B w.heap.size w).alloc (Nat.le_refl _) (.cells (aH l).toArray 35))
 have XV := aD w (aH l) 35
 obtain ⟨x0, _⟩ := aa XV 0 rfl
 have y1 : (w.alloc (.cells #[ag l.to, ag l.name] 35)).cell? ⟨Bs, 1, none⟩ = some (.slice za xs.length zcap) := (BV.out.cell (p := ⟨Bs, 1, none⟩) hB).trans c1
 have sx := XV.1
 have sB : Bs < (w.alloc (.cells #[ag l.to, ag l.name] 35)).heap.size := q4N hB BV.out.size
 have C := hid (wT 99 #[.pointer (some ⟨w.heap.size, 0, none⟩)] (fun q => q.z.name == l.to) xs za zcap (w.alloc (.cells (aH l).toArray 35)) (au h BV.out) hxs (enters_of Tryz.func99 (by kernel_rfl) rfl)
  (fun x _ W hW => Cb x w.heap.size l W (q4N sx hW.size) ((hW.cell (p := ⟨w.heap.size, 0, none⟩) sx).trans x0)))
 have HA : Hid (nT xs l = !xs.any fun q => q.z.name == l.to) := rfl
 clear XV h c1
 go_enter Tryz.func97, Tryz.ntmps97
 go_wp2_with fail
 refine C.out.mono ?_
 rintro e w1 ⟨rfl, hb⟩
 have B1 : Hid (Below w.heap.size w w1) := BV.out.trans (hb.mono BV.out.size)
 clear hb
 go_wp2
 go_ret
 exact ⟨aC (by rw [HA.out]), B1.out⟩
theorem Eb (rs : List Sx.Rl) (Bs : Nat) (x : Sx.Er) (ra : Option Addr) (rcap : Nat) (w : World) (h : bY w (.slice ra rs.length rcap) rs) (hrs : rs.length ≤ 10000) (hB : Bs < w.heap.size) (c0 : w.cell? ⟨Bs, 0, none⟩ = some (.slice ra rs.length rcap)) :
  Calls Tryz.prog 100 #[gZ x, .pointer (some ⟨Bs, 0, none⟩)] w fun e w' => e = .returned (.bool (l5 rs x)) ∧ Below w.heap.size w w' := by
 have BV := hid ((q4B w.heap.size w).alloc (Nat.le_refl _) (.cells (ax x).toArray 67))
 have XV := aD w (ax x) 67
 obtain ⟨x1, _⟩ := aa XV 1 rfl
 have y0 : (w.alloc (.cells #[.int .i64 x.shift, ag x.rules, .int .i64 x.save, ag x.format, .bool x.opn, .int .i64 x.uy, .int .i64 x.um, .int .i64 x.ud, .int .i64 x.uat, .int .i64 x.uclock] 67)).cell? ⟨Bs, 0, none⟩ = some (.slice ra rs.length rcap) := (BV.out.cell (p := ⟨Bs, 0, none⟩) hB).trans c0
 have sx := XV.1
 have sB : Bs < (w.alloc (.cells #[.int .i64 x.shift, ag x.rules, .int .i64 x.save, ag x.format, .bool x.opn, .int .i64 x.uy, .int .i64 x.um, .int .i64 x.ud, .int .i64 x.uat, .int .i64 x.uclock] 67)).heap.size := q4N hB BV.out.size
 have C := hid (wS 102 #[.pointer (some ⟨w.heap.size, 0, none⟩)] (fun r => r.name == x.rules) rs ra rcap (w.alloc (.cells (ax x).toArray 67)) (au h BV.out) hrs (enters_of Tryz.func102 (by kernel_rfl) rfl)
  (fun r _ W hW => Cc r w.heap.size x.rules W (q4N sx hW.size) ((hW.cell (p := ⟨w.heap.size, 1, none⟩) sx).trans x1)))
 have HA : Hid (l5 rs x = (!x.rules.isEmpty && !rs.any fun r => r.name == x.rules)) := rfl
 clear XV h c0
 cases he : x.rules.isEmpty
 case true =>
  go_enter Tryz.func100, Tryz.ntmps100
  go_wp2
  go_ret
  exact ⟨aC (by rw [HA.out, he]; rfl), BV.out⟩
 case false =>
  go_enter Tryz.func100, Tryz.ntmps100
  go_wp2_with fail
  refine C.out.mono ?_
  rintro e w1 ⟨rfl, hb⟩
  have B1 : Hid (Below w.heap.size w w1) := BV.out.trans (hb.mono BV.out.size)
  clear hb
  go_wp2
  go_ret
  exact ⟨aC (by rw [HA.out, he]; simp), B1.out⟩
theorem uI (rs : List Sx.Rl) (zs : List Sx.Zn) (ls : List Sx.Lk) (xs : List ZV) (ra za la : Option Addr) (rcap zcap lcap : Nat) (w : World) (h1 : bY w (.slice ra rs.length rcap) rs) (h2 : jr w (.slice za xs.length zcap) zs xs) (h3 : fe w (.slice la ls.length lcap) ls)
  (hr : rs.length ≤ 10000) (hx : xs.length ≤ 10000) (hl : ls.length ≤ 10000) (he : ∀ p ∈ xs, p.z.eras.length ≤ 10000) :
  Calls Tryz.prog 44 #[.agg #[.slice ra rs.length rcap, .slice za xs.length zcap, .slice la ls.length lcap]] w fun e w' => e = .returned (.int .i64 (wB rs ls xs)) ∧ Below w.heap.size w w' := by
 have BV := hid ((q4B w.heap.size w).alloc (Nat.le_refl _) (.cells [.slice ra rs.length rcap, .slice za xs.length zcap, .slice la ls.length lcap].toArray 26))
 have XV := aD w [.slice ra rs.length rcap, .slice za xs.length zcap, .slice la ls.length lcap] 26
 obtain ⟨V, hV⟩ : ∃ V, w.alloc (.cells #[.slice ra rs.length rcap, .slice za xs.length zcap, .slice la ls.length lcap] 26) = V := ⟨_, rfl⟩
 obtain ⟨B, hB⟩ : ∃ B, w.heap.size = B := ⟨_, rfl⟩
 have hV' : w.alloc (.cells [.slice ra rs.length rcap, .slice za xs.length zcap, .slice la ls.length lcap].toArray 26) = V := hV
 rw [hV'] at BV XV
 rw [hB] at XV
 have R1 := au h1 BV.out
 have R2 := fK h2 BV.out
 have R3 := au h3 BV.out
 have sB := XV.1
 obtain ⟨⟨x0, _⟩, ⟨x1, _⟩, ⟨x2, _⟩, -⟩ := cp3 XV
 have e1 : ∀ args w, (callFunc 97 args).run Tryz.prog w = .ok (.enter 97 args) w := enters_of Tryz.func97 (by kernel_rfl) rfl
 have e2 : ∀ args w, (callFunc 100 args).run Tryz.prog w = .ok (.enter 100 args) w := enters_of Tryz.func100 (by kernel_rfl) rfl
 have eL : ∀ args w, (callFunc 160 args).run Tryz.prog w = .ok (.enter 160 args) w := enters_of Tryz.func160 (by kernel_rfl) rfl
 have eE : ∀ args w, (callFunc 110 args).run Tryz.prog w = .ok (.enter 110 args) w := enters_of Tryz.func110 (by kernel_rfl) rfl
 /- over the links -/
 have C1 := hid (fun (W : World) (hW : Below V.heap.size V W) =>
  let hWL : Below W.heap.size W (W.alloc (.cells #[.slice la ls.length lcap] 24)) := (q4B W.heap.size W).alloc (Nat.le_refl _) _
  let hVL : Below V.heap.size V (W.alloc (.cells #[.slice la ls.length lcap] 24)) := hW.trans (hWL.mono hW.size)
  IQ 160 97 #[.pointer (some ⟨W.heap.size, 0, none⟩)] #[.pointer (some ⟨B, 0, none⟩)] (nT xs) ls (W.alloc (.cells #[.slice la ls.length lcap] 24)) eL e1
   (fun w1 hw1 => yK 3 W.heap.size (by omega) ls la lcap (W.alloc (.cells #[.slice la ls.length lcap] 24)) w1 (au R3 hVL) hl ((hw1.cell (p := ⟨W.heap.size, 0, none⟩) (by simp)).trans (aa (aD W [.slice la ls.length lcap] 24) 0 rfl).1) (q4N (by simp) hw1.size) hw1)
   (fun x _ W' hW' => by
    have hh := hVL.trans (hW'.mono hVL.size)
    exact Ea xs B x za zcap W' (au R2.rd hh) hx (q4N sB hh.size) ((hh.cell (p := ⟨B, 1, none⟩) sB).trans x1)))
 have C2 := hid (fun (W : World) (hW : Below V.heap.size V W) =>
  let hWL : Below W.heap.size W (W.alloc (.cells #[.slice za xs.length zcap] 23)) := (q4B W.heap.size W).alloc (Nat.le_refl _) _
  let hVL : Below V.heap.size V (W.alloc (.cells #[.slice za xs.length zcap] 23)) := hW.trans (hWL.mono hW.size)
  IM 110 100 #[.pointer (some ⟨W.heap.size, 0, none⟩)] #[.pointer (some ⟨B, 0, none⟩)] (l5 rs) (aS xs) (W.alloc (.cells #[.slice za xs.length zcap] 23)) eE e2
   (fun w1 hw1 => AC 3 W.heap.size (by omega) xs zs za zcap (W.alloc (.cells #[.slice za xs.length zcap] 23)) w1 (fK R2 hVL) hx he ((hw1.cell (p := ⟨W.heap.size, 0, none⟩) (by simp)).trans (aa (aD W [.slice za xs.length zcap] 23) 0 rfl).1) (q4N (by simp) hw1.size) hw1)
   (fun x _ W' hW' => by
    have hh := hVL.trans (hW'.mono hVL.size)
    exact Eb rs B x ra rcap W' (au R1 hh) hr (q4N sB hh.size) ((hh.cell (p := ⟨B, 0, none⟩) sB).trans x0)))
 clear R1 R2 R3 h1 h2 h3 hr hx hl he e1 e2 eL eE hV'
 have BVB : Hid (Below B w V) := by show Below _ _ _; rw [← hB]; exact BV.out
 have HTE : Hid (wB rs ls xs = if (ls.any (nT xs) || (aS xs).any (l5 rs)) = true then 5 else 0) := rfl
 have HV := hid (q4B V.heap.size V)
 have SB := hid sB
 have X1 := hid x1
 go_enter Tryz.func44, Tryz.ntmps44
 go_wp2_with fail
 refine (yJ _ _ _ _).mono ?_
 rintro e w1 ⟨rfl, rfl⟩
 go_wp2_with fail
 refine (C1.out V HV.out).mono ?_
 rintro e w2 ⟨rfl, hb⟩
 have HB2 : Hid (Below V.heap.size V w2) := ((q4B V.heap.size V).alloc (Nat.le_refl _) _).trans (hb.mono (by simp))
 have y1 := (HB2.out.cell (p := ⟨B, 1, none⟩) SB.out).trans X1.out
 have sB2 : B < w2.heap.size := q4N SB.out HB2.out.size
 clear hb x0 x1 x2 sB C1
 obtain ⟨A, hA⟩ : ∃ A, ls.any (nT xs) = A := ⟨_, rfl⟩
 rw [hA]
 have HA := hid hA
 clear hA
 cases A
 case true =>
  go_wp2
  go_ret
  exact ⟨ay (by rw [HTE.out, HA.out]; rfl), BV.out.trans (HB2.out.mono BV.out.size)⟩
 go_wp2_with fail
 refine (qd _ _ _ _).mono ?_
 rintro e w3 ⟨rfl, rfl⟩
 go_wp2_with fail
 refine (C2.out w2 HB2.out).mono ?_
 rintro e w4 ⟨rfl, hb⟩
 have HB4 : Hid (Below V.heap.size V w4) := HB2.out.trans (((q4B w2.heap.size w2).alloc (Nat.le_refl _) (.cells #[.slice za xs.length zcap] 23)).trans (hb.mono (by simp)) |>.mono HB2.out.size)
 clear hb y1 sB2 C2
 obtain ⟨A, hA⟩ : ∃ A, (aS xs).any (l5 rs) = A := ⟨_, rfl⟩
 rw [hA]
 have HA2 := hid hA
 clear hA
 cases A
 all_goals
  go_wp2
  go_ret
  exact ⟨ay (by rw [HTE.out, HA.out, HA2.out]; rfl), BV.out.trans (HB4.out.mono BV.out.size)⟩
end
section
open Go.RowKit Go.Shelf
attribute [local go_sem] Oper.semAt_some

def mY (c : Nat → Int) : Int := if c 0 ≠ 0 then c 0 else if c 1 ≠ 0 then c 1 else if c 2 ≠ 0 then c 2 else if c 3 ≠ 0 then c 3 else c 4
theorem qf {c : Nat → Int} {k : Nat} (hk : k < 5) (h : ∀ i < k, c i = 0) (hc : c k ≠ 0) : mY c = c k := by
 unfold mY
 have d0 : k ≠ 0 → c 0 = 0 := fun q => h 0 (by omega)
 have d1 : 1 < k → c 1 = 0 := fun q => h 1 (by omega)
 have d2 : 2 < k → c 2 = 0 := fun q => h 2 (by omega)
 have d3 : 3 < k → c 3 = 0 := fun q => h 3 (by omega)
 match k, hk, hc with
 | 0, _, hc => rw [if_pos hc]
 | 1, _, hc => rw [if_neg (by simp [d0 (by omega)]), if_pos hc]
 | 2, _, hc => rw [if_neg (by simp [d0 (by omega)]), if_neg (by simp [d1 (by omega)]), if_pos hc]
 | 3, _, hc => rw [if_neg (by simp [d0 (by omega)]), if_neg (by simp [d1 (by omega)]), if_neg (by simp [d2 (by omega)]), if_pos hc]
 | 4, _, hc => rw [if_neg (by simp [d0 (by omega)]), if_neg (by simp [d1 (by omega)]), if_neg (by simp [d2 (by omega)]), if_neg (by simp [d3 (by omega)])]
theorem Ip {c : Nat → Int} (h : ∀ i < 5, c i = 0) : mY c = 0 := by
 unfold mY
 rw [h 0 (by omega), h 1 (by omega), h 2 (by omega), h 3 (by omega), h 4 (by omega)]; simp
theorem Ep (c : Nat → Int) (ra za la : Option Addr) (n1 n2 n3 rcap zcap lcap : Nat) (w : World) (h0 : (∀ i < 0, c i = 0) → ∀ W, Below w.heap.size w W → Calls Tryz.prog 42 #[.agg #[.slice ra n1 rcap, .slice za n2 zcap, .slice la n3 lcap]] W fun e w' => e = .returned (.int .i64 (c 0)) ∧ Below W.heap.size W w') (h1 : (∀ i < 1, c i = 0) → ∀ W, Below w.heap.size w W → Calls Tryz.prog 43 #[.agg #[.slice ra n1 rcap, .slice za n2 zcap, .slice la n3 lcap]] W fun e w' => e = .returned (.int .i64 (c 1)) ∧ Below W.heap.size W w') (h2 : (∀ i < 2, c i = 0) → ∀ W, Below w.heap.size w W → Calls Tryz.prog 44 #[.agg #[.slice ra n1 rcap, .slice za n2 zcap, .slice la n3 lcap]] W fun e w' => e = .returned (.int .i64 (c 2)) ∧ Below W.heap.size W w') (h3 : (∀ i < 3, c i = 0) → ∀ W, Below w.heap.size w W → Calls Tryz.prog 45 #[.agg #[.slice ra n1 rcap, .slice za n2 zcap, .slice la n3 lcap]] W fun e w' => e = .returned (.int .i64 (c 3)) ∧ Below W.heap.size W w') (h4 : (∀ i < 4, c i = 0) → ∀ W, Below w.heap.size w W → Calls Tryz.prog 46 #[.agg #[.slice ra n1 rcap, .slice za n2 zcap, .slice la n3 lcap]] W fun e w' => e = .returned (.int .i64 (c 4)) ∧ Below W.heap.size W w') :
  Calls Tryz.prog 14 #[.agg #[.slice ra n1 rcap, .slice za n2 zcap, .slice la n3 lcap]] w fun e w' => e = .returned (.int .i64 (mY c)) ∧ Below w.heap.size w w' := by
 have H0 := hid h0
 have H1 := hid h1
 have H2 := hid h2
 have H3 := hid h3
 have H4 := hid h4
 clear h0 h1 h2 h3 h4
 have XS := hid (aM (aD w [.slice ra n1 rcap, .slice za n2 zcap, .slice la n3 lcap] 26) (.cells #[.func (.func 42) #[] #[], .func (.func 43) #[] #[], .func (.func 44) #[] #[], .func (.func 45) #[] #[], .func (.func 46) #[] #[]] 29))
 have XF := hid (aD (w.alloc (.cells #[.slice ra n1 rcap, .slice za n2 zcap, .slice la n3 lcap] 26)) [.func (.func 42) #[] #[], .func (.func 43) #[] #[], .func (.func 44) #[] #[], .func (.func 45) #[] #[], .func (.func 46) #[] #[]] 29)
 have B0 := hid (((q4B _ w).alloc (Nat.le_refl _) (.cells #[.slice ra n1 rcap, .slice za n2 zcap, .slice la n3 lcap] 26)).alloc (by simp) (.cells #[.func (.func 42) #[] #[], .func (.func 43) #[] #[], .func (.func 44) #[] #[], .func (.func 45) #[] #[], .func (.func 46) #[] #[]] 29))
 rw [World.size_alloc] at XF
 go_enter Tryz.func14, Tryz.ntmps14
 go_wp2_with fail
 go_loopw [10] (fun a wr => ∃ k : Nat, k ≤ 5 ∧ a = .int .i64 k ∧ Hid (Below w.heap.size w wr) ∧ Hid (ak wr w.heap.size [.slice ra n1 rcap, .slice za n2 zcap, .slice la n3 lcap]) ∧ Hid (ak wr (w.heap.size + 1) [.func (.func 42) #[] #[], .func (.func 43) #[] #[], .func (.func 44) #[] #[], .func (.func 45) #[] #[], .func (.func 46) #[] #[]]) ∧ Hid (∀ i < k, c i = 0)) (fun a _ => 5 - (intOf a).toNat)
 case atStart => exact ⟨0, by omega, rfl, B0, XS, XF, fun i hi => absurd hi (Nat.not_lt_zero _)⟩
 case round =>
  clear B0 XS XF
  obtain ⟨k, hk, rfl, B0, XS, XF, HC⟩ := hrel
  obtain ⟨⟨x0, f0⟩, ⟨x1, f1⟩, ⟨x2, f2⟩, sx⟩ := cp3 XS.out
  have sf := XF.out.1
  rcases (show k = 0 ∨ k = 1 ∨ k = 2 ∨ k = 3 ∨ k = 4 ∨ k = 5 by omega) with rfl | rfl | rfl | rfl | rfl | rfl
  ·have CC := hid (H0.out HC.out wr B0.out)
   have y := (aa XF.out 0 rfl).1
   clear H0 H1 H2 H3 H4
   obtain ⟨E, hE⟩ : ∃ E, c 0 = E := ⟨_, rfl⟩
   rw [hE] at CC
   have HE := hid hE
   clear hE
   go_wp2_with fail
   refine CC.out.mono ?_
   rintro e w1 ⟨rfl, hb⟩
   have B1 := hid (B0.out.trans (hb.mono B0.out.size))
   have X1 := hid (ai XS.out hb)
   have Y1 := hid (ai XF.out hb)
   clear CC hb B0 XS XF
   by_cases hq : E = 0
   ·subst hq
    have HC2 : Hid (∀ i < 1, c i = 0) := fun i hi => by
     by_cases e : i = 0
     ·rw [e]; exact HE.out
     ·exact HC.out i (by omega)
    clear HC HE
    go_wp2
    go_roundw
    case rel => exact ⟨1, by omega, by go_num, B1, X1, Y1, HC2⟩
    case measure => simp [intOf]
   ·have hq2 : (E == 0) = false := by simp [hq]
    have hq3 : decide (E = 0) = false := by simp [hq]
    go_wp2
    go_ret
    exact ⟨ay (by rw [qf (by omega) HC.out (by rw [HE.out]; exact hq), HE.out]), B1.out⟩
  ·have CC := hid (H1.out HC.out wr B0.out)
   have y := (aa XF.out 1 rfl).1
   clear H0 H1 H2 H3 H4
   obtain ⟨E, hE⟩ : ∃ E, c 1 = E := ⟨_, rfl⟩
   rw [hE] at CC
   have HE := hid hE
   clear hE
   go_wp2_with fail
   refine CC.out.mono ?_
   rintro e w1 ⟨rfl, hb⟩
   have B1 := hid (B0.out.trans (hb.mono B0.out.size))
   have X1 := hid (ai XS.out hb)
   have Y1 := hid (ai XF.out hb)
   clear CC hb B0 XS XF
   by_cases hq : E = 0
   ·subst hq
    have HC2 : Hid (∀ i < 2, c i = 0) := fun i hi => by
     by_cases e : i = 1
     ·rw [e]; exact HE.out
     ·exact HC.out i (by omega)
    clear HC HE
    go_wp2
    go_roundw
    case rel => exact ⟨2, by omega, by go_num, B1, X1, Y1, HC2⟩
    case measure => simp [intOf]
   ·have hq2 : (E == 0) = false := by simp [hq]
    have hq3 : decide (E = 0) = false := by simp [hq]
    go_wp2
    go_ret
    exact ⟨ay (by rw [qf (by omega) HC.out (by rw [HE.out]; exact hq), HE.out]), B1.out⟩
  ·have CC := hid (H2.out HC.out wr B0.out)
   have y := (aa XF.out 2 rfl).1
   clear H0 H1 H2 H3 H4
   obtain ⟨E, hE⟩ : ∃ E, c 2 = E := ⟨_, rfl⟩
   rw [hE] at CC
   have HE := hid hE
   clear hE
   go_wp2_with fail
   refine CC.out.mono ?_
   rintro e w1 ⟨rfl, hb⟩
   have B1 := hid (B0.out.trans (hb.mono B0.out.size))
   have X1 := hid (ai XS.out hb)
   have Y1 := hid (ai XF.out hb)
   clear CC hb B0 XS XF
   by_cases hq : E = 0
   ·subst hq
    have HC2 : Hid (∀ i < 3, c i = 0) := fun i hi => by
     by_cases e : i = 2
     ·rw [e]; exact HE.out
     ·exact HC.out i (by omega)
    clear HC HE
    go_wp2
    go_roundw
    case rel => exact ⟨3, by omega, by go_num, B1, X1, Y1, HC2⟩
    case measure => simp [intOf]
   ·have hq2 : (E == 0) = false := by simp [hq]
    have hq3 : decide (E = 0) = false := by simp [hq]
    go_wp2
    go_ret
    exact ⟨ay (by rw [qf (by omega) HC.out (by rw [HE.out]; exact hq), HE.out]), B1.out⟩
  ·have CC := hid (H3.out HC.out wr B0.out)
   have y := (aa XF.out 3 rfl).1
   clear H0 H1 H2 H3 H4
   obtain ⟨E, hE⟩ : ∃ E, c 3 = E := ⟨_, rfl⟩
   rw [hE] at CC
   have HE := hid hE
   clear hE
   go_wp2_with fail
   refine CC.out.mono ?_
   rintro e w1 ⟨rfl, hb⟩
   have B1 := hid (B0.out.trans (hb.mono B0.out.size))
   have X1 := hid (ai XS.out hb)
   have Y1 := hid (ai XF.out hb)
   clear CC hb B0 XS XF
   by_cases hq : E = 0
   ·subst hq
    have HC2 : Hid (∀ i < 4, c i = 0) := fun i hi => by
     by_cases e : i = 3
     ·rw [e]; exact HE.out
     ·exact HC.out i (by omega)
    clear HC HE
    go_wp2
    go_roundw
    case rel => exact ⟨4, by omega, by go_num, B1, X1, Y1, HC2⟩
    case measure => simp [intOf]
   ·have hq2 : (E == 0) = false := by simp [hq]
    have hq3 : decide (E = 0) = false := by simp [hq]
    go_wp2
    go_ret
    exact ⟨ay (by rw [qf (by omega) HC.out (by rw [HE.out]; exact hq), HE.out]), B1.out⟩
  ·have CC := hid (H4.out HC.out wr B0.out)
   have y := (aa XF.out 4 rfl).1
   clear H0 H1 H2 H3 H4
   obtain ⟨E, hE⟩ : ∃ E, c 4 = E := ⟨_, rfl⟩
   rw [hE] at CC
   have HE := hid hE
   clear hE
   go_wp2_with fail
   refine CC.out.mono ?_
   rintro e w1 ⟨rfl, hb⟩
   have B1 := hid (B0.out.trans (hb.mono B0.out.size))
   have X1 := hid (ai XS.out hb)
   have Y1 := hid (ai XF.out hb)
   clear CC hb B0 XS XF
   by_cases hq : E = 0
   ·subst hq
    have HC2 : Hid (∀ i < 5, c i = 0) := fun i hi => by
     by_cases e : i = 4
     ·rw [e]; exact HE.out
     ·exact HC.out i (by omega)
    clear HC HE
    go_wp2
    go_roundw
    case rel => exact ⟨5, by omega, by go_num, B1, X1, Y1, HC2⟩
    case measure => simp [intOf]
   ·have hq2 : (E == 0) = false := by simp [hq]
    have hq3 : decide (E = 0) = false := by simp [hq]
    go_wp2
    go_ret
    exact ⟨ay (by rw [qf (by omega) HC.out (by rw [HE.out]; exact hq), HE.out]), B1.out⟩
  ·clear H0 H1 H2 H3 H4
   go_wp2
   go_ret
   exact ⟨ay (by rw [Ip HC.out]), B0.out⟩
end
namespace Sx
theorem AA : ∀ {l : List Er}, iI l = 0 → ∀ x ∈ l, ∃ b, eD x b = 0
 | [], _, x, hx => by cases hx
 | [a], h, x, hx => by rw [List.mem_singleton] at hx; subst hx; exact ⟨true, h⟩
 | a :: b :: r, h, x, hx => by
   have h' : (if eD a false ≠ 0 then eD a false else iI (b :: r)) = 0 := h
   by_cases q : eD a false = 0
   ·rw [if_neg (by simp [q])] at h'
    rcases List.mem_cons.1 hx with rfl | hx
    ·exact ⟨false, q⟩
    ·exact AA h' x hx
   ·rw [if_pos q] at h'; exact absurd h' q
structure Ae (x : Er) : Prop where
 name : x.rules = [] ∨ bF x.rules = true
 fmt : dw x.format = true
 sh0 : -64800 ≤ x.shift
 sh1 : x.shift ≤ 64800
 sv0 : 0 ≤ x.save
 sv1 : x.save ≤ 10800
 till : x.opn = true ∨ kU x
theorem Lb {x : Er} {b : Bool} (h : eD x b = 0) : Ae x := by
 unfold eD at h
 split at h
 ·cases h
 rename_i h1
 split at h
 ·cases h
 rename_i h2
 split at h
 ·cases h
 rename_i h3
 split at h
 ·cases h
 split at h
 ·cases h
 simp [inB] at h1 h2 h3
 have ht : x.opn = true ∨ kU x := by
  unfold pg at h
  by_cases q : x.opn = true
  ·exact .inl q
  ·rw [if_neg q] at h
   split at h
   ·cases h
   rename_i h4
   split at h
   ·cases h
   rename_i h5
   simp [inB] at h4 h5
   exact .inr ⟨h4, h5.1, h5.2, h2.1, h2.2⟩
 refine ⟨?_, h1.2, h2.1, h2.2, h3.1, h3.2, ht⟩
 rcases h1.1 with q | q
 ·exact .inl (by simpa using q)
 ·exact .inr q
structure Hz (s : Sr) : Prop where
 many : eH s = false
 rule : ∀ r ∈ s.rules, dI r = 0
 zone : ∀ z ∈ s.zones, dB z = 0
 link : ∀ l ∈ s.links, d9 l = 0
theorem uo {s : Sr} (h : fB s = 0) : Hz s := by
 unfold fB at h
 split at h
 ·cases h
 rename_i h1
 unfold orE at h
 split at h
 ·rename_i q; exact absurd h q
 rename_i h2
 split at h
 ·rename_i q; exact absurd h q
 rename_i h3
 simp at h1 h2 h3
 exact ⟨by simpa using h1, ji _ h2, ji _ h3, ji _ h⟩
theorem rX {z : Zn} (h : dB z = 0) : ∀ x ∈ z.eras, Ae x := by
 unfold dB at h
 split at h
 ·cases h
 ·intro x hx
  obtain ⟨b, hb⟩ := AA h x hx
  exact Lb hb
theorem Ef {rs : List Rl} {nm : Tx.Bs} {a b : Int} (ha : -64800 ≤ a ∧ a ≤ 64800) (hb : -64800 ≤ b ∧ b ≤ 64800) : bM rs nm a = bM rs nm b := by
 unfold bM
 rw [show inB a (-64800) 64800 = true by simp [inB]; omega, show inB b (-64800) 64800 = true by simp [inB]; omega]
end Sx
section
open Go.RowKit Go.Shelf
/- what zone.Check answers -/
def JP (s : Sx.Sr) (xs : List ZV) : Nat → Int
 | 0 => Sx.fB s
 | 1 => nN (dF s.zones s.links)
 | 2 => wB s.rules s.links xs
 | 3 => iR s.rules (aS xs)
 | _ => yS xs
def iQ (s : Sx.Sr) (xs : List ZV) : Int := mY (JP s xs)
theorem wO {w : World} {v : Value} {zs : List Sx.Zn} {xs : List ZV} (h : jr w v zs xs) {p : ZV} (hp : p ∈ xs) : p.z ∈ zs := by
 rw [← h.fst]; exact List.mem_map_of_mem hp
theorem EA {w : World} {v : Value} {zs : List Sx.Zn} {xs : List ZV} (h : jr w v zs xs) {e : Sx.Er} (he : e ∈ aS xs) : ∃ z ∈ zs, e ∈ z.eras := by
 obtain ⟨p, hp, q⟩ := List.mem_flatMap.1 he
 exact ⟨p.z, wO h hp, q⟩
/- a source as the call finds it -/
structure kF (s : Sx.Sr) (xs : List ZV) (ra za la : Option Addr) (rcap zcap lcap : Nat) (m : Int) (w : World) : Prop where
 rules : bY w (.slice ra s.rules.length rcap) s.rules
 zones : fE w (.slice za xs.length zcap) s.zones
 cap : oL w (.slice za xs.length zcap) s.zones
 zv : jr w (.slice za xs.length zcap) s.zones xs
 links : fe w (.slice la s.links.length lcap) s.links
 size : mO s
 max : w.cell? ⟨0, 0, none⟩ = some (.int .i64 m)
 pos : 0 < w.heap.size
theorem bD {s : Sx.Sr} {xs : List ZV} {ra za la : Option Addr} {rcap zcap lcap : Nat} {m : Int} {w W : World} (h : kF s xs ra za la rcap zcap lcap m w) (hb : Below w.heap.size w W) : kF s xs ra za la rcap zcap lcap m W :=
 ⟨au h.rules hb, dY h.zones hb, mW h.cap h.zones hb, fK h.zv hb, au h.links hb, h.size, (hb.cell (p := ⟨0, 0, none⟩) h.pos).trans h.max, q4N h.pos hb.size⟩
theorem wJ (s : Sx.Sr) (xs : List ZV) (ra za la : Option Addr) (rcap zcap lcap : Nat) (m : Int) (w : World) (h : kF s xs ra za la rcap zcap lcap m w) :
  Calls Tryz.prog 14 #[.agg #[.slice ra s.rules.length rcap, .slice za xs.length zcap, .slice la s.links.length lcap]] w fun e w' => e = .returned (.int .i64 (iQ s xs)) ∧ Below w.heap.size w w' := by
 have hl := lh h.zv
 have facts : JP s xs 0 = 0 → s.rules.length ≤ 40 ∧ xs.length ≤ 20 ∧ s.links.length ≤ 20 ∧ (∀ p ∈ xs, p.z.eras.length ≤ 8) ∧ (∀ e ∈ aS xs, Sx.Ae e) ∧ (∀ p ∈ xs, ∀ e ∈ p.z.eras, e.opn = true ∨ kU e) ∧ (aS xs).length ≤ 160 := by
  intro h0
  have ok := Sx.uo h0
  obtain ⟨f1, f2, f3, f4⟩ := ny ok.many
  have f5 : ∀ p ∈ xs, p.z.eras.length ≤ 8 := fun p hp => f4 p.z (wO h.zv hp)
  have hlen : ∀ l : List ZV, (∀ p ∈ l, p.z.eras.length ≤ 8) → (aS l).length ≤ l.length * 8 := by
   intro l
   induction l with
   | nil => intro _; simp [aS]
   | cons a r ih =>
     intro hh
     have h1 := hh a (by simp)
     have h2 := ih (fun p hp => hh p (List.mem_cons_of_mem _ hp))
     have e : (aS (a :: r)).length = a.z.eras.length + (aS r).length := by simp [aS]
     rw [e, List.length_cons]; omega
  have hlen' := hlen xs f5
  refine ⟨f1, by omega, f3, f5, ?_, ?_, by omega⟩
  ·intro e he
   obtain ⟨z, hz, q⟩ := EA h.zv he
   exact Sx.rX (ok.zone z hz) e q
  ·intro p hp e he
   exact (Sx.rX (ok.zone p.z (wO h.zv hp)) e he).till
 refine Ep (JP s xs) ra za la s.rules.length xs.length s.links.length rcap zcap lcap w ?_ ?_ ?_ ?_ ?_
 ·intro _ W hW
  have g := bD h hW
  exact DX s _ _ _ m W ⟨g.rules, g.zones, g.links⟩ g.cap g.size g.max g.pos
 ·intro hc W hW
  have g := bD h hW
  obtain ⟨f1, f2, f3, f4, f5, f6, f7⟩ := facts (hc 0 (by omega))
  refine uK s.zones s.links xs ra za la s.rules.length rcap zcap lcap W g.zv g.links (by omega) (by omega) ?_
  intro n hn
  unfold dF at hn
  rcases List.mem_append.1 hn with hn | hn
  ·obtain ⟨z, hz, rfl⟩ := List.mem_map.1 hn
   exact (h.size.zones z hz).1
  ·obtain ⟨l, hl, rfl⟩ := List.mem_map.1 hn
   exact (h.size.links l hl).2
 ·intro hc W hW
  have g := bD h hW
  obtain ⟨f1, f2, f3, f4, f5, f6, f7⟩ := facts (hc 0 (by omega))
  exact uI s.rules s.zones s.links xs ra za la rcap zcap lcap W g.rules g.zv g.links (by omega) (by omega) (by omega) (fun p hp => by have := f4 p hp; omega)
 ·intro hc W hW
  have g := bD h hW
  obtain ⟨f1, f2, f3, f4, f5, f6, f7⟩ := facts (hc 0 (by omega))
  refine uJ s.zones s.rules xs ra za la s.links.length rcap zcap lcap W g.rules g.zv (by omega) (fun p hp => by have := f4 p hp; omega) (by omega) h.size.rules ?_ ?_
  ·intro e he
   obtain ⟨z, hz, q⟩ := EA h.zv he
   exact ((h.size.zones z hz).2 e q).1
  ·intro e he e' he' q
   rw [q]
   exact Sx.Ef ⟨(f5 e he).sh0, (f5 e he).sh1⟩ ⟨(f5 e' he').sh0, (f5 e' he').sh1⟩
 ·intro hc W hW
  have g := bD h hW
  obtain ⟨f1, f2, f3, f4, f5, f6, f7⟩ := facts (hc 0 (by omega))
  exact wR s.zones xs (.slice ra s.rules.length rcap) (.slice la s.links.length lcap) ra za la s.rules.length s.links.length rcap zcap lcap W g.zv (by omega) (fun p hp => by have := f4 p hp; omega) f6
end
section
open Go.RowKit Go.Shelf
attribute [local go_sem] Oper.semAt_some

theorem vK {β : Type} {B k : Nat} {o : β → Obj} (h : k < B) : bX B (fun (s : β) W => W.heap[k]? = some (o s)) :=
 fun s W W' row hs hg hr => @aV Unit B k (o s) h () W W' row hs hg hr
def Fh : Sx.Tm := ⟨0, 0, []⟩
def lastT (p : Sx.Tm → Bool) (l : List Sx.Tm) : Sx.Tm := l.foldl (fun a x => if p x = true then x else a) Fh
theorem vG (p : Sx.Tm → Bool) (l : List Sx.Tm) (x : Sx.Tm) : lastT p (l ++ [x]) = if p x = true then x else lastT p l := by
 unfold lastT; rw [List.foldl_append]; rfl
theorem KI {W : World} {b : Nat} {t : TypeId} {c0 c1 c2 : Value} (v0 v1 v2 : Value) (h : W.heap[b]? = some (.cells #[c0, c1, c2] t)) :
  (((W.setCell ⟨b, 0, none⟩ v0).setCell ⟨b, 1, none⟩ v1).setCell ⟨b, 2, none⟩ v2).heap[b]? = some (.cells #[v0, v1, v2] t) := by
 have e := dR (dR (dR h 0 v0) 1 v1) 2 v2
 simp only [List.setIfInBounds_toArray, List.set_cons_zero, List.set_cons_succ] at e
 exact e
theorem EF (W : World) (b : Nat) (v0 v1 v2 : Value) : W.grownBy (((W.setCell ⟨b, 0, none⟩ v0).setCell ⟨b, 1, none⟩ v1).setCell ⟨b, 2, none⟩ v2) (some b) := grown_put (grown_put (grown_put (j6 W b) 0 v0) 1 v1) 2 v2
theorem F6 {w W : World} {N D : Nat} {a : Act} {x : Sx.Tm} {b : Bool} {R : Ending → World → Prop} (h4 : a.tmps.getD 4 undef = .pointer (some ⟨N + 1, 0, none⟩)) (h5 : a.tmps.getD 5 undef = .bool b) (hd : a.defers = [{ target := .collected D, args := #[] }])
  (i1 : W.heap[N + 1]? = some (.cells #[.int .i64 x.at_, .int .i64 x.save, ag x.letter] 72)) (hD : N + 1 < D) (hN : w.heap.size ≤ N) (hK : W.heap[D]? = some (.deferred (some []))) (hB : Below w.heap.size w W) (hR : ∀ w', Below w.heap.size w w' → R (.returned (.tuple #[iO x, .bool b])) w') :
  bodyPostM Fence.wide 4 Tryz.prog Tryz.f112 R .ret a W := by
 obtain ⟨tm, df⟩ := a
 dsimp only at h4 h5 hd
 subst hd
 rw [Array.getD_eq_getD_getElem?] at h4 h5
 have hX := belowK_b (w := w) (Nat.le_refl _) W D _ (.deferred none) (by omega) hK rfl rfl
 have j1 : (W.putObj D (.deferred none)).heap[N + 1]? = some (.cells #[.int .i64 x.at_, .int .i64 x.save, ag x.letter] 72) := (World.putObj_heap_other (by omega)).trans i1
 refine ⟨by simp, .inl ⟨_, _, rfl, run_takeDeferred hK, ?_⟩⟩
 have BX := hid (hR _ (hB.trans hX))
 generalize W.putObj D (.deferred none) = X at j1 BX ⊢
 obtain ⟨y0, _⟩ := aa (aj (vs := [.int .i64 x.at_, .int .i64 x.save, ag x.letter]) j1) 0 rfl
 obtain ⟨y1, _⟩ := aa (aj (vs := [.int .i64 x.at_, .int .i64 x.save, ag x.letter]) j1) 1 rfl
 obtain ⟨y2, _⟩ := aa (aj (vs := [.int .i64 x.at_, .int .i64 x.save, ag x.letter]) j1) 2 rfl
 clear j1 i1 hK hB hX hR
 refine ⟨.tuple #[iO x, .bool b], ?_, BX.out⟩
 simp [results, Tryz.results112, go_sem, *]
theorem FZ (gf hf : Nat) (lb hc : Array Value) (p : Sx.Tm → Bool) (xs : List Sx.Tm) (w : World)
  (eg : ∀ args w, (callFunc gf args).run Tryz.prog w = .ok (.enter gf args) w) (eh : ∀ args w, (callFunc hf args).run Tryz.prog w = .ok (.enter hf args) w)
  (hseq : ∀ w1, Below w.heap.size w w1 → mM Fence.wide 3 Tryz.prog gf lb (fun x : Sx.Tm => #[iO x]) (Below w.heap.size) (fun ys => ys = xs) (fun pre => pre <+: xs) w1)
  (hp : ∀ x ∈ xs, ∀ W, Below w.heap.size w W → Calls Tryz.prog hf (#[iO x] ++ hc) W fun e W' => e = .returned (.bool (p x)) ∧ Below W.heap.size W W') :
  Calls Tryz.prog 112 #[.func (.func gf) #[] lb, .func (.func hf) #[] hc] w
   fun e w' => e = .returned (.tuple #[iO (lastT p xs), .bool (xs.any p)]) ∧ Below w.heap.size w w' := by
 refine (callsIn_wide (n := 4)).1 ?_
 refine callsIn_of_wp_marks Tryz.func112 rfl trivial ?_ rfl
 simp only [Tryz.ntmps112, List.size_toArray, List.length_cons, List.length_nil, Nat.reduceAdd, Nat.reduceSub, Array.replicate_succ, Array.replicate_zero, List.push_toArray, List.append_toArray, List.nil_append, List.cons_append]
 have HP := hid hp
 have HQ := hid hseq
 clear hp hseq
 gi_wp2
 obtain ⟨N, hN⟩ : ∃ N, w.heap.size = N := ⟨_, rfl⟩
 obtain ⟨V, hV⟩ : ∃ V, ((((w.alloc (.cells #[.func (.func hf) #[] hc] 181)).alloc (.cells #[.int .i64 0, .int .i64 0, .string ⟨#[]⟩] 72)).alloc (.cells #[.int .i64 0, .int .i64 0, .string ⟨#[]⟩] 72)).alloc (.cells #[.bool false] 4)) = V := ⟨_, rfl⟩
 rw [hV]
 have vS : V.heap.size = N + 4 := by rw [← hV, ← hN]; simp
 have v0 : V.heap[N]? = some (.cells #[.func (.func hf) #[] hc] 181) := by
  rw [← hV, Below.heap_alloc _ _ _ (by simp; omega), Below.heap_alloc _ _ _ (by simp; omega), Below.heap_alloc _ _ _ (by simp; omega), ← hN]; exact World.alloc_heap_new w _
 have v1 : V.heap[N + 1]? = some (.cells #[.int .i64 0, .int .i64 0, .string ⟨#[]⟩] 72) := by
  rw [← hV, Below.heap_alloc _ _ _ (by simp; omega), Below.heap_alloc _ _ _ (by simp; omega), ← hN]
  have := World.alloc_heap_new (w.alloc (.cells #[.func (.func hf) #[] hc] 181)) (.cells #[.int .i64 0, .int .i64 0, .string ⟨#[]⟩] 72)
  rwa [World.size_alloc] at this
 have v2 : V.heap[N + 1 + 1]? = some (.cells #[.int .i64 0, .int .i64 0, .string ⟨#[]⟩] 72) := by
  rw [← hV, Below.heap_alloc _ _ _ (by simp; omega), ← hN]
  have := World.alloc_heap_new ((w.alloc (.cells #[.func (.func hf) #[] hc] 181)).alloc (.cells #[.int .i64 0, .int .i64 0, .string ⟨#[]⟩] 72)) (.cells #[.int .i64 0, .int .i64 0, .string ⟨#[]⟩] 72)
  rwa [World.size_alloc, World.size_alloc] at this
 have v3 : V.heap[N + 1 + 1 + 1]? = some (.cells #[.bool false] 4) := by
  rw [← hV, ← hN]
  have := World.alloc_heap_new (((w.alloc (.cells #[.func (.func hf) #[] hc] 181)).alloc (.cells #[.int .i64 0, .int .i64 0, .string ⟨#[]⟩] 72)).alloc (.cells #[.int .i64 0, .int .i64 0, .string ⟨#[]⟩] 72)) (.cells #[.bool false] 4)
  rwa [World.size_alloc, World.size_alloc, World.size_alloc] at this
 have vB : Below w.heap.size w V := by
  rw [← hV]; exact ((((q4B _ w).alloc (Nat.le_refl _) _).alloc (by simp) _).alloc (by simp; omega) _).alloc (by simp; omega) _
 rw [hN]
 refine gP rfl (by omega) (gf := gf) (lb := lb) rfl trivial eg
  (oo (HQ.out V vB)) (fun h k => h.trans k) (belowK_b (by omega)) (q4B _ _) (fun _ => rfl)
  (fun (pre : List Sx.Tm) W => (W.heap[N]? = some (.cells #[.func (.func hf) #[] hc] 181) ∧ W.heap[N + 1]? = some (.cells #[.int .i64 0, .int .i64 0, .string ⟨#[]⟩] 72) ∧ W.heap[N + 1 + 1]? = some (.cells #[.int .i64 (lastT p pre).at_, .int .i64 (lastT p pre).save, ag (lastT p pre).letter] 72) ∧ W.heap[N + 1 + 1 + 1]? = some (.cells #[.bool (pre.any p)] 4)) ∧ Below w.heap.size w W)
  (fun _ _ _ => False)
  (bX.and (bX.and (aV (by omega)) (bX.and (aV (by omega)) (bX.and (vK (by omega)) (vK (by omega))))) (eY (Nat.le_refl _) (by omega)))
  (fun _ _ _ _ _ h _ _ => h)
  ⟨⟨v0, v1, v2, v3⟩, vB⟩
  (fun x a' W => ∃ Bx, N + 1 + 1 + 1 < Bx ∧ W.heap[Bx]? = some (.cells (jq x).toArray 72 (0, 0)) ∧ a' = { tmps := #[.func (.func gf) #[] lb, .func (.func hf) #[] hc, undef, .pointer (some ⟨N, 0, none⟩), .pointer (some ⟨N + 1, 0, none⟩), .bool false, .pointer (some ⟨N + 1 + 1, 0, none⟩), .pointer (some ⟨N + 1 + 1 + 1, 0, none⟩), .pointer (some ⟨Bx, 0, none⟩), .func (.func gf) #[] lb, iO x, undef, undef, undef, undef, undef, undef], defers := [] })
  ?hAx ?assign ?body ?done ?stop
 case hAx =>
  rintro x a' _ X Y row ⟨Bx, q1, q2, q3⟩ hg hr
  refine ⟨Bx, q1, ?_, q3⟩
  rw [hg.block Bx (q4A.1 q2).1 (fun e => by obtain ⟨_, o, ho, hc⟩ := hr Bx e.symm; rw [q2] at ho; cases ho; simp [Obj.isCells] at hc)]
  exact q2
 case assign =>
  rintro l pre x W K ⟨⟨i0, i1, i2, i3⟩, iB⟩ sz hK
  rw [vS] at sz
  have KB := hid ((q4B W.heap.size W).alloc (Nat.le_refl _) (.cells (jq x).toArray 72))
  have R := hid (hK { tmps := #[.func (.func gf) #[] lb, .func (.func hf) #[] hc, undef, .pointer (some ⟨N, 0, none⟩), .pointer (some ⟨N + 1, 0, none⟩), .bool false, .pointer (some ⟨N + 1 + 1, 0, none⟩), .pointer (some ⟨N + 1 + 1 + 1, 0, none⟩), .pointer (some ⟨W.heap.size, 0, none⟩), .func (.func gf) #[] lb, iO x, undef, undef, undef, undef, undef, undef], defers := [] } (W.alloc (.cells (jq x).toArray 72)) ((KeepsOthers.alloc _ _).from _) (KB.out.mono iB.size)
   ⟨⟨(KB.out.block _ (q4A.1 i0).1).trans i0, (KB.out.block _ (q4A.1 i1).1).trans i1, (KB.out.block _ (q4A.1 i2).1).trans i2, (KB.out.block _ (q4A.1 i3).1).trans i3⟩, iB.alloc iB.size _⟩ ⟨W.heap.size, by omega, World.alloc_heap_new W _, rfl⟩)
  clear hK i0 i1 i2 i3
  gi_wp2
  exact R.out
 case body =>
  rintro l pre x a' W hl ⟨r, hr⟩ ⟨⟨i0, i1, i2, i3⟩, iB⟩ ⟨Bx, hBx, hX, rfl⟩ hpx sz
  have HC := hid (HP.out x (fI hpx) W iB)
  obtain ⟨⟨x0, _⟩, ⟨x1, _⟩, ⟨x2, _⟩, -⟩ := cp3 (aj hX)
  have f0 := (aa (aj (vs := [.func (.func hf) #[] hc]) i0) 0 rfl).1
  have sx := (q4A.1 hX).1
  have s0 := (q4A.1 i0).1
  have HX := hid hX
  have I0 := hid i0
  have I1 := hid i1
  have IB := hid iB
  obtain ⟨L, hL⟩ : ∃ L, lastT p pre = L := ⟨_, rfl⟩
  obtain ⟨A, hA⟩ : ∃ A, pre.any p = A := ⟨_, rfl⟩
  rw [hL] at i2
  rw [hA] at i3
  have HL := hid hL
  have HA := hid hA
  have I2 := hid i2
  have I3 := hid i3
  clear hX i0 i1 i2 i3 iB hr hpx hL hA
  obtain ⟨C, hC⟩ : ∃ C, p x = C := ⟨_, rfl⟩
  rw [hC] at HC
  have HCC := hid hC
  have SV : Hid (V.heap.size = N + 4 ∧ w.heap.size = N) := ⟨vS, hN⟩
  clear hC
  cases C
  case false =>
   have E1 : Hid (lastT p (pre ++ [x]) = L) := by show _ = _; rw [vG, HCC.out, HL.out]; rfl
   have E2 : Hid ((pre ++ [x]).any p = A) := by show _ = _; rw [List.any_append, HA.out]; simp [HCC.out]
   gi_wp2_with fail
   refine ⟨trivial, (CallsIn.inRound l (callsIn_wide.2 HC.out)).mono ?_⟩
   rintro e w1 ⟨rfl, hb⟩
   gi_wp2
   refine ⟨(cO hb).from _, hb.mono IB.out.size, ⟨(hb.block _ (q4A.1 I0.out).1).trans I0.out, (hb.block _ (q4A.1 I1.out).1).trans I1.out, ?_, ?_⟩, IB.out.trans (hb.mono IB.out.size)⟩
   ·rw [E1.out]; exact (hb.block _ (q4A.1 I2.out).1).trans I2.out
   ·rw [E2.out]; exact (hb.block _ (q4A.1 I3.out).1).trans I3.out
  case true =>
   have E1 : Hid (lastT p (pre ++ [x]) = x) := by show _ = _; rw [vG, HCC.out]; rfl
   have E2 : Hid ((pre ++ [x]).any p = true) := by show _ = _; rw [List.any_append]; simp [HCC.out]
   gi_wp2_with fail
   refine ⟨trivial, (CallsIn.inRound l (callsIn_wide.2 HC.out)).mono ?_⟩
   rintro e w1 ⟨rfl, hb⟩
   have HB := hid hb
   have CX := ai (aj HX.out) hb
   obtain ⟨⟨y0, _⟩, ⟨y1, _⟩, ⟨y2, _⟩, -⟩ := cp3 CX
   have CR := ai (aj (vs := [.int .i64 L.at_, .int .i64 L.save, ag L.letter]) I2.out) hb
   obtain ⟨⟨r0, q0⟩, ⟨r1, q1⟩, ⟨r2, q2⟩, -⟩ := cp3 CR
   have CB := ai (aj (vs := [.bool A]) I3.out) hb
   obtain ⟨b0, b1⟩ := aa CB 0 rfl
   have sR := CR.1
   have sB := CB.1
   have sX := CX.1
   clear hb CX CR CB
   gi_wp2
   have G1 := EF w1 (N + 1 + 1) (.int .i64 x.at_) (.int .i64 x.save) (ag x.letter)
   have hb := HB.out
   have e0 := (hb.block _ (q4A.1 I0.out).1).trans I0.out
   have e1 := (hb.block _ (q4A.1 I1.out).1).trans I1.out
   have e2 := (hb.block _ (q4A.1 I2.out).1).trans I2.out
   have e3 := (hb.block _ (q4A.1 I3.out).1).trans I3.out
   have p1 := KI (.int .i64 x.at_) (.int .i64 x.save) (ag x.letter) e2
   have p2 := (G1.block (N + 1 + 1 + 1) (q4A.1 e3).1 (by simp)).trans e3
   have p3 := rG (.bool true) p2
   have G2 := grownBy_setCell' (((w1.setCell ⟨N + 1 + 1, 0, none⟩ (.int .i64 x.at_)).setCell ⟨N + 1 + 1, 1, none⟩ (.int .i64 x.save)).setCell ⟨N + 1 + 1, 2, none⟩ (ag x.letter)) (N + 1 + 1 + 1) (.bool true)
   have B1 := IB.out.trans (hb.mono IB.out.size)
   have B2 := B1.grown G1 B1.size (fun k e => by cases e; have := SV.out; omega)
   have B3 := B2.grown G2 B2.size (fun k e => by cases e; have := SV.out; omega)
   have hk : ∀ k o, k < w1.heap.size → k ≠ N + 1 + 1 → k ≠ N + 1 + 1 + 1 → w1.heap[k]? = some o → ((((w1.setCell ⟨N + 1 + 1, 0, none⟩ (.int .i64 x.at_)).setCell ⟨N + 1 + 1, 1, none⟩ (.int .i64 x.save)).setCell ⟨N + 1 + 1, 2, none⟩ (ag x.letter)).setCell ⟨N + 1 + 1 + 1, 0, none⟩ (.bool true)).heap[k]? = some o := fun k o h0 h1 h2 h3 => ((G2.block k (by simpa using h0) (by intro e; injection e with e; omega)).trans (G1.block k h0 (by intro e; injection e with e; omega))).trans h3
   refine ⟨(((cO hb).trans (dW G1 e2)).trans (dW G2 p2)).from _, ?_, ⟨hk N _ (q4A.1 e0).1 (by omega) (by omega) e0, hk (N + 1) _ (q4A.1 e1).1 (by omega) (by omega) e1, ?_, ?_⟩, B3⟩
   ·have q1 := (hb.mono IB.out.size : Below w.heap.size W w1)
    have q2 := q1.grown G1 B1.size (fun k e => by cases e; have := SV.out; omega)
    exact q2.grown G2 B2.size (fun k e => by cases e; have := SV.out; omega)
   ·rw [E1.out]; exact (G2.block (N + 1 + 1) (q4A.1 p1).1 (by simp)).trans p1
   ·rw [E2.out]; exact p3
 case done =>
  rintro D ys W hD rfl ⟨⟨i0, i1, i2, i3⟩, iB⟩ hK
  rw [vS] at hD
  obtain ⟨L, hL⟩ : ∃ L, lastT p ys = L := ⟨_, rfl⟩
  obtain ⟨A, hA⟩ : ∃ A, ys.any p = A := ⟨_, rfl⟩
  rw [hL] at i2
  rw [hA] at i3
  have HLA : Hid (lastT p ys = L ∧ ys.any p = A) := ⟨hL, hA⟩
  have CZ := aj (vs := [.int .i64 0, .int .i64 0, .string ⟨#[]⟩]) i1
  have CR := aj (vs := [.int .i64 L.at_, .int .i64 L.save, ag L.letter]) i2
  have CB := aj (vs := [.bool A]) i3
  obtain ⟨⟨z0, k0⟩, ⟨z1, k1⟩, ⟨z2, k2⟩, -⟩ := cp3 CZ
  obtain ⟨⟨r0, _⟩, ⟨r1, _⟩, ⟨r2, _⟩, -⟩ := cp3 CR
  obtain ⟨b0, _⟩ := aa CB 0 rfl
  have sZ := CZ.1
  have sR := CR.1
  have sB := CB.1
  have HK := hid hK
  have IB := hid iB
  have I1 := hid i1
  have HD := hid hD
  have SV : Hid (w.heap.size = N) := hN
  clear i0 i1 i2 i3 CZ CR CB hK iB v0 v1 v2 v3 vB hV vS eg hL hA
  gi_wp2_with fail
  gi_region
  all_goals
   have G1 := EF W (N + 1) (.int .i64 L.at_) (.int .i64 L.save) (ag L.letter)
   have p1 := KI (.int .i64 L.at_) (.int .i64 L.save) (ag L.letter) I1.out
   have d1 := (G1.block D (q4A.1 HK.out).1 (by have := HD.out; intro e; injection e with e; omega)).trans HK.out
   have B2 := IB.out.grown G1 IB.out.size (fun k e => by cases e; have := SV.out; omega)
   have hD2 := HD.out
   have sv := SV.out
   gi_wp2
   refine F6 (w := w) (N := N) (D := D) (x := L) (b := A) rfl rfl rfl p1 (by omega) (by omega) d1 ⟨B2.os, B2.tape, B2.output, B2.size, B2.block⟩ (fun w' hb => ⟨?_, hb⟩)
   rw [HLA.out.1, HLA.out.2]
 case stop =>
  rintro D c pre W _ _ h _
  exact h.elim
end
namespace Sx

structure Sz (s : Sr) : Prop where
 rules : ∀ r ∈ s.rules, r.name.length ≤ 24 ∧ r.letter.length ≤ 24
 zones : ∀ z ∈ s.zones, z.name.length ≤ 24 ∧ ∀ x ∈ z.eras, x.rules.length ≤ 24 ∧ x.format.length ≤ 24
 links : ∀ l ∈ s.links, l.to.length ≤ 24 ∧ l.name.length ≤ 24
structure Fp (st : St) (i : Nat) : Prop where
 must : st.must = true → st.src.zones ≠ []
 rules : st.src.rules.length ≤ i
 zones : st.src.zones.length ≤ i
 links : st.src.links.length ≤ i
 eras : ∀ z ∈ st.src.zones, z.eras.length ≤ i
 sz : Sz st.src
theorem D8 : Fp ⟨gm, false⟩ 0 := ⟨fun h => (by cases h), Nat.le_refl _, Nat.le_refl _, Nat.le_refl _, by simp [gm], ⟨by simp [gm], by simp [gm], by simp [gm]⟩⟩
theorem Dk {s t : Tx.Bs} (h : jL s = some t) : t = [] ∨ t = s := by
 unfold jL at h
 split at h
 ·simp at h; exact .inl h
 ·split at h
  ·simp at h; exact .inr h.symm
  ·cases h
theorem qB {s t : Tx.Bs} (h : kM s = some t) : t = s := by
 unfold kM at h
 split at h
 ·simp at h; exact h.symm
 ·cases h
theorem Db {s t : Tx.Bs} (h : lQ s = some t) : t = s := by
 unfold lQ at h
 split at h
 ·simp at h; exact h.symm
 ·cases h
theorem GK {s : Tx.Bs} {p : Tx.Bs × Int} (h : l7 s = some p) : p.1 = [] ∨ p.1 = s := by
 rw [ma] at h
 split at h
 ·simp at h; subst h; exact .inl rfl
 ·split at h
  ·split at h
   ·cases h
   ·simp [Option.map_eq_some_iff] at h; obtain ⟨_, _, rfl⟩ := h; exact .inl rfl
  ·split at h
   ·simp at h; subst h; exact .inr rfl
   ·cases h
theorem Js {fs : List Tx.Bs} {p : Rl × List Tx.Bs} (h : qJ fs = some p) (hf : ∀ f ∈ fs, f.length ≤ 24) : p.1.name.length ≤ 24 ∧ p.1.letter.length ≤ 24 := by
 unfold qJ at h
 split at h
 ·simp only [Option.bind_eq_some_iff, Option.map_eq_some_iff] at h
  obtain ⟨nm, h1, _, _, _, _, _, _, _, _, _, _, _, _, lt, h8, rfl⟩ := h
  have e1 := qB h1
  subst e1
  refine ⟨hf _ (by simp), ?_⟩
  rcases Dk h8 with rfl | rfl
  ·simp
  ·exact hf _ (by simp)
 ·cases h
theorem Ey {fs : List Tx.Bs} {p : Er × List Tx.Bs} (h : pu fs = some p) (hf : ∀ f ∈ fs, f.length ≤ 24) : p.1.rules.length ≤ 24 ∧ p.1.format.length ≤ 24 := by
 unfold pu at h
 split at h
 ·rename_i a b c rest
  simp only [Option.bind_eq_some_iff] at h
  obtain ⟨_, _, rs, h2, fm, h3, h⟩ := h
  have e3 := Db h3
  subst e3
  have hr : rs.1.length ≤ 24 := by
   rcases GK h2 with q | q <;> rw [q]
   ·simp
   ·exact hf _ (by simp)
  have hc : fm.length ≤ 24 := hf _ (by simp)
  split at h
  ·simp at h; subst h; exact ⟨hr, hc⟩
  ·simp only [Option.bind_eq_some_iff] at h
   obtain ⟨_, _, _, _, _, _, _, _, h⟩ := h
   split at h
   ·cases h
   ·simp at h; subst h; exact ⟨hr, hc⟩
  ·cases h
 ·cases h
theorem qV {α : Type} {o : Option (α × List Tx.Bs)} {a : α} (h : whole o = some a) : o = some (a, []) := by
 unfold whole at h
 split at h
 ·simp at h; subst h; rfl
 ·cases h
theorem mh {α : Type} : ∀ (l : List α), l ≠ [] → ∃ a x, l = a ++ [x]
 | [], h => absurd rfl h
 | [x], _ => ⟨[], x, rfl⟩
 | x :: y :: r, _ => by
   obtain ⟨a, z, e⟩ := mh (y :: r) (by simp)
   exact ⟨x :: a, z, by rw [e]; rfl⟩
theorem yB {st st' : St} {l : Tx.Ln} {i : Nat} (h : iJ st l = some st') (hf : ∀ f ∈ l.fields, f.length ≤ 24) (hk : Fp st i) : Fp st' (i + 1) := by
 obtain ⟨m1, k1, k2, k3, k4, ⟨s1, s2, s3⟩⟩ := hk
 unfold iJ at h
 split at h
 ·cases h
 split at h
 ·rename_i hm
  simp only [Option.map_eq_some_iff] at h
  obtain ⟨x, hx, rfl⟩ := h
  have hs := Ey (qV hx) hf
  obtain ⟨zs, z0, e⟩ := mh _ (m1 hm)
  rw [e] at k2 k4 s2
  have hz0 := k4 z0 (by simp)
  have ha : qZ x st.src.zones = zs ++ [⟨z0.name, z0.eras ++ [x]⟩] := by rw [e, mP]
  refine ⟨fun _ => by rw [ha]; simp, by simp; omega, by rw [ha]; simp at k2 ⊢; omega, by simp; omega, ?_, ⟨s1, ?_, s3⟩⟩
  ·rw [ha]
   intro y hy
   simp at hy
   rcases hy with hy | rfl
   ·have := k4 y (by simp [hy]); omega
   ·simp; omega
  ·rw [ha]
   intro y hy
   simp at hy
   rcases hy with hy | rfl
   ·exact s2 y (by simp [hy])
   ·refine ⟨(s2 z0 (by simp)).1, fun q hq => ?_⟩
    simp at hq
    rcases hq with hq | rfl
    ·exact (s2 z0 (by simp)).2 q hq
    ·exact hs
 ·unfold o5 at h
  split at h
  ·cases h
  rename_i w fs hfs
  have hf' : ∀ f ∈ fs, f.length ≤ 24 := fun f q => hf f (by rw [hfs]; simp [q])
  have k4' : ∀ z ∈ st.src.zones, z.eras.length ≤ i + 1 := fun z hz => by have := k4 z hz; omega
  split at h
  ·simp only [Option.map_eq_some_iff] at h
   obtain ⟨x, hx, rfl⟩ := h
   have hs := Js (qV hx) hf'
   refine ⟨fun q => (by cases q), by simp; omega, by simp; omega, by simp; omega, k4', ⟨?_, s2, s3⟩⟩
   intro y hy
   simp at hy
   rcases hy with hy | rfl
   ·exact s1 y hy
   ·exact hs
  split at h
  ·simp only [Option.map_eq_some_iff] at h
   obtain ⟨x, hx, rfl⟩ := h
   have hz := qV hx
   unfold wM at hz
   split at hz
   ·rename_i n fs2
    simp only [Option.bind_eq_some_iff, Option.map_eq_some_iff] at hz
    obtain ⟨nm, h1, p, h2, h3⟩ := hz
    have e1 := qB h1
    subst e1
    have hs := Ey h2 (fun f q => hf' f (by simp [q]))
    simp at h3
    obtain ⟨rfl, _⟩ := h3
    have hn := hf' nm (by simp)
    refine ⟨fun _ => by simp, by simp; omega, by simp; omega, by simp; omega, ?_, ⟨s1, ?_, s3⟩⟩
    ·intro y hy
     simp at hy
     rcases hy with hy | rfl
     ·exact k4' y hy
     ·simp
    ·intro y hy
     simp at hy
     rcases hy with hy | rfl
     ·exact s2 y hy
     ·exact ⟨hn, fun q hq => by simp at hq; subst hq; exact hs⟩
   ·cases hz
  split at h
  ·simp only [Option.map_eq_some_iff] at h
   obtain ⟨x, hx, rfl⟩ := h
   have hz := qV hx
   unfold yc at hz
   split at hz
   ·simp only [Option.bind_eq_some_iff, Option.map_eq_some_iff] at hz
    obtain ⟨nm, h1, p, h2, h3⟩ := hz
    have e1 := qB h1
    have e2 := qB h2
    subst e1 e2
    simp at h3
    obtain ⟨rfl, _⟩ := h3
    refine ⟨fun q => (by cases q), by simp; omega, by simp; omega, by simp; omega, k4', ⟨s1, s2, ?_⟩⟩
    intro y hy
    simp at hy
    rcases hy with hy | rfl
    ·exact s3 y hy
    ·exact ⟨hf' _ (by simp), hf' _ (by simp)⟩
   ·cases hz
  ·cases h
end Sx
end Go.Proofs.YtkhlkohlccndgaaGreat
