/- Contracts of the program's moment.Local and table.Look. -/
import Derived.Test.YtnmdfbbfgiaijaaPrD
import Derived.Test.YtnmdfbbfgiaijaaShE
import Derived.RegionTactic
namespace Go.Proofs.Ytnmdfbbfgiaijaa
open Go.RowKit Go.Lib Go.Sort
set_option linter.unusedVariables false
set_option linter.unusedSimpArgs false

/- counting over places is counting over what lies there -/
theorem countP_places {α : Type} (l : List α) (f : Option α → Bool) : (List.range l.length).countP (fun i => f l[i]?) = l.countP (fun c => f (some c)) := by
  have h : (List.range l.length).map (fun i => l[i]?) = l.map some := by
    apply List.ext_getElem
    · simp
    · intro i h1 h2
      simp at h1
      simp [h1]
  have e : (List.range l.length).countP (fun i => f l[i]?) = ((List.range l.length).map (fun i => l[i]?)).countP f := by rw [List.countP_map]; rfl
  rw [e, h, List.countP_map]
  rfl
namespace Tb
/- how many changes are no later than a time -/
def cnt (n : Int) (l : List Cg) : Nat := l.countP (fun c => decide (c.at_ ≤ n))
theorem cnt_zero {n : Int} : ∀ {l : List Cg} {c : Cg}, Rise (c :: l) → n < c.at_ → cnt n (c :: l) = 0 := by
  intro l c hr hc
  unfold cnt
  rw [List.countP_eq_zero]
  intro d hd
  simp at hd
  rcases hd with rfl | hd
  · simp; exact hc
  · have := rise_all l c hr d hd
    simp; omega
theorem lookL_cnt (n : Int) : ∀ (l : List Cg) (o : Lc), Rise l → lookL o n l = (match cnt n l with | 0 => o | k + 1 => match l[k]? with | some c => c.lc | none => o)
  | [], o, _ => rfl
  | c :: r, o, hr => by
    simp only [lookL]
    by_cases hc : c.at_ ≤ n
    · rw [if_pos hc, lookL_cnt n r c.lc (rise_tail hr)]
      have e : cnt n (c :: r) = cnt n r + 1 := by unfold cnt; rw [List.countP_cons]; simp [hc]
      rw [e]
      cases hk : cnt n r with
      | zero => rfl
      | succ k =>
        have hl : k < r.length := by have : cnt n r ≤ r.length := List.countP_le_length; omega
        simp [hl]
    · have z := cnt_zero (n := n) hr (by omega)
      rw [z, if_neg hc, lookL_cnt n r o (rise_tail hr)]
      have e : cnt n (c :: r) = cnt n r := by unfold cnt; rw [List.countP_cons]; simp [hc]
      rw [← e, z]
theorem look_zero {t : Tbl} {n : Int} (hr : Rise t.ch) (h : cnt n t.ch = 0) : look t n = t.first := by unfold look; rw [lookL_cnt n _ _ hr, h]
theorem look_succ {t : Tbl} {n : Int} {k : Nat} {c : Cg} (hr : Rise t.ch) (h : cnt n t.ch = k + 1) (hc : t.ch[k]? = some c) : look t n = c.lc := by unfold look; rw [lookL_cnt n _ _ hr, h]; simp only [hc]
theorem cnt_le (n : Int) (l : List Cg) : cnt n l ≤ l.length := List.countP_le_length
/- is the change at a place later than a time? -/
def laterAt (n : Int) : Option Cg → Bool
  | some c => decide (n < c.at_)
  | none => true
theorem rise_get : ∀ {l : List Cg} {i j : Nat} {c d : Cg}, Rise l → i ≤ j → l[i]? = some c → l[j]? = some d → c.at_ ≤ d.at_
  | [], i, j, c, d, _, _, h, _ => by simp at h
  | a :: r, 0, 0, c, d, _, _, h1, h2 => by rw [h1] at h2; cases h2; exact Int.le_refl _
  | a :: r, 0, j + 1, c, d, hr, _, h1, h2 => by
    simp at h1 h2; subst h1
    exact Int.le_of_lt (rise_all r a hr d (List.mem_of_getElem? h2))
  | a :: r, i + 1, 0, c, d, _, h, _, _ => by omega
  | a :: r, i + 1, j + 1, c, d, hr, h, h1, h2 => rise_get (rise_tail hr) (Nat.le_of_succ_le_succ h) (by simpa using h1) (by simpa using h2)
/- what was told, by how many changes were no later -/
def LastIs (R f : Lc) (ch : List Cg) : Nat → Prop
  | 0 => R = f
  | j + 1 => ∃ c, ch[j]? = some c ∧ R = c.lc
end Tb

set_option maxHeartbeats 2000000 in
theorem later_any (N M : Nat) (f : Tb.Lc) (a : Option Addr) (b o cap len i : Nat) (c n : Int) (W : World) (hi : i < len) (ha : a = some ⟨b, o, none⟩)
    (ht : W.cell? ⟨N, 3, none⟩ = some (.slice a len cap)) (hn : W.cell? ⟨M, 0, none⟩ = some (.int .i64 n)) (hc : W.cell? ⟨b, o + i * 4, none⟩ = some (.int .i64 c)) :
    Calls Try.prog 44 (#[.int .i64 i] ++ #[.pointer (some ⟨N, 0, none⟩), .pointer (some ⟨M, 0, none⟩)]) W fun e w' => e = .returned (.bool (decide (n < c))) ∧ ∃ q, w' = W.drewN q := by
  subst ha
  have hiz : (i : Int) < (len : Int) := by omega
  go_enter Try.func44, Try.ntmps44
  go_wp2
  go_region
  all_goals go_wp2
  all_goals go_ret
  all_goals exact ⟨by first | rfl | simp, 1, rfl⟩

set_option maxRecDepth 100000 in
set_option maxHeartbeats 4000000 in
theorem momentLocal_any (t : Tb.Tbl) (v : Value) (n : Int) (w : World) (h : RdCh w v t.ch) (hr : Tb.Rise t.ch) (hl : t.ch.length ≤ 1000) :
    Calls Try.prog 31 #[tbV t.first v, .int .i64 n] w fun e w' => e = .returned (lcV (Tb.look t n)) ∧ Below w.heap.size w w' := by
  obtain ⟨f, ch⟩ := t
  simp only at h hr hl
  have h' := h
  obtain ⟨a, cap, rfl, hc⟩ := h'
  clear hc
  obtain ⟨W0, hW⟩ : ∃ W0, ((w.alloc (.cells (tbL f (.slice a ch.length cap)).toArray 26)).alloc (.cells [Value.int .i64 n].toArray 3)).alloc (.cells (lcL lc0).toArray 23) = W0 := ⟨_, rfl⟩
  have B0 : Below w.heap.size w W0 := by
    rw [← hW]
    exact (((Below.refl _ _).alloc (Nat.le_refl _) _).alloc (by simp) _).alloc (by simp; omega) _
  have X0 : CellsAt W0 w.heap.size (tbL f (.slice a ch.length cap)) := by rw [← hW]; exact ca_alloc (ca_alloc (ca_new _ _ _) _) _
  have A0 : CellsAt W0 (w.heap.size + 1) [Value.int .i64 n] := by
    rw [← hW]
    have := ca_alloc (ca_new (w.alloc (.cells (tbL f (.slice a ch.length cap)).toArray 26)) [Value.int .i64 n] 3) (.cells (lcL lc0).toArray 23)
    simpa using this
  have Z0 : CellsAt W0 (w.heap.size + 1 + 1) (lcL lc0) := by
    rw [← hW]
    have := ca_new ((w.alloc (.cells (tbL f (.slice a ch.length cap)).toArray 26)).alloc (.cells [Value.int .i64 n].toArray 3)) (lcL lc0) 23
    simpa using this
  have eg : ∀ args w, (callFunc 44 args).run Try.prog w = .ok (.enter 44 args) w := enters_of Try.func44 (by kernel_rfl) rfl
  have hS := Any.sort_Search Try.laysSearch 44 #[.pointer (some ⟨w.heap.size, 0, none⟩), .pointer (some ⟨w.heap.size + 1, 0, none⟩)] ch.length (fun i => Tb.laterAt n ch[i]?) W0 eg (by omega)
    (fun m os i hi => by
      obtain ⟨c, hcc⟩ : ∃ c, ch[i]? = some c := ⟨_, List.getElem?_eq_getElem hi⟩
      obtain ⟨b, o, cap', e, hb, c0, _⟩ := rdCh_at (rdCh_below h B0) hcc
      simp only [Value.slice.injEq] at e
      have := later_any w.heap.size (w.heap.size + 1) f a b o cap ch.length i c.at_ n (grow (W0.drewN m) os) hi e.1 (cell_grown X0.1 (ca_at X0 3 rfl).1 m os) (cell_grown A0.1 (ca_at A0 0 rfl).1 m os) (cell_grown hb c0 m os)
      rw [hcc]
      exact this.mono fun _ _ ⟨he, q, hq⟩ => ⟨he, q, #[], by rw [hq, grow_empty]⟩)
    (fun i j hij hj hp => by
      obtain ⟨c, hcc⟩ : ∃ c, ch[i]? = some c := ⟨_, List.getElem?_eq_getElem (by omega)⟩
      obtain ⟨d, hd⟩ : ∃ d, ch[j]? = some d := ⟨_, List.getElem?_eq_getElem hj⟩
      have q := Tb.rise_get hr hij hcc hd
      rw [hcc] at hp
      rw [hd]
      simp [Tb.laterAt] at hp ⊢
      omega)
  rw [countP_places ch (fun o => !Tb.laterAt n o), show ch.countP (fun c => !Tb.laterAt n (some c)) = Tb.cnt n ch from (by unfold Tb.cnt; congr 1; funext c; by_cases q : c.at_ ≤ n <;> simp [Tb.laterAt, q] <;> omega)] at hS
  obtain ⟨k, hk⟩ : ∃ k, Tb.cnt n ch = k := ⟨_, rfl⟩
  rw [hk] at hS
  have hS2 : Calls Try.prog 43 #[.int .i64 ch.length, .func (.func 44) #[] #[.pointer (some ⟨w.heap.size, 0, none⟩), .pointer (some ⟨w.heap.size + 1, 0, none⟩)]] W0 fun e w' => e = .returned (.int .i64 k) ∧ Below W0.heap.size W0 w' :=
    Calls.mono hS fun _ _ ⟨he, q, os, hq⟩ => ⟨he, by rw [hq]; exact below_grown_sl _ _ _ _ (Nat.le_refl _)⟩
  have hkl : k ≤ ch.length := by rw [← hk]; exact Tb.cnt_le _ _
  have HH := hid h
  have HX := hid X0
  have HZ := hid Z0
  have HB := hid B0
  have HW := hid hW
  obtain ⟨R, hR⟩ : ∃ R, Tb.look ⟨f, ch⟩ n = R := ⟨_, rfl⟩
  rw [hR]
  have HS := hid hS2
  have HK : Hid (Tb.LastIs R f ch k) := by
    show Tb.LastIs R f ch k
    clear HS hS2 hS
    cases k with
    | zero => exact hR.symm.trans (Tb.look_zero (t := ⟨f, ch⟩) hr hk)
    | succ j =>
      obtain ⟨c, hcc⟩ : ∃ c, ch[j]? = some c := ⟨_, List.getElem?_eq_getElem (by omega)⟩
      exact ⟨c, hcc, hR.symm.trans (Tb.look_succ (t := ⟨f, ch⟩) hr hk hcc)⟩
  clear hS hS2 hk hr X0 Z0 B0 A0 hW hR eg h
  rw [← HW.out] at HS
  go_enter Try.func31, Try.ntmps31
  go_wp2_with fail
  refine HS.out.mono ?_
  rintro e w1 ⟨rfl, hb1⟩
  rw [HW.out] at hb1
  have XU := hid (ca_below HX.out hb1)
  have ZU := hid (ca_below HZ.out hb1)
  have BU : Hid (Below w.heap.size w w1) := HB.out.trans (hb1.mono HB.out.size)
  clear HS HX HZ HB HW hb1
  obtain ⟨x0, f0⟩ := ca_at XU.out 0 rfl
  obtain ⟨x1, f1⟩ := ca_at XU.out 1 rfl
  obtain ⟨x2, f2⟩ := ca_at XU.out 2 rfl
  obtain ⟨x3, f3⟩ := ca_at XU.out 3 rfl
  obtain ⟨z0, g0⟩ := ca_at ZU.out 0 rfl
  obtain ⟨z1, g1⟩ := ca_at ZU.out 1 rfl
  obtain ⟨z2, g2⟩ := ca_at ZU.out 2 rfl
  have sx := XU.out.1
  have sz := ZU.out.1
  cases k with
  | zero =>
    have HR : Hid (R = f) := HK.out
    clear HK
    go_wp2
    refine bodyPost_ret (v := lcV f) (by simp [results, Try.results31, go_sem, *]) rfl ⟨by rw [HR.out], ?_⟩
    exact below_set (below_set (below_set BU.out (by omega) _) (by omega) _) (by omega) _
  | succ j =>
    obtain ⟨c, hcc, hR⟩ := HK.out
    obtain ⟨bb, bo, bcap, e, hbb, c0, c1, c2, c3⟩ := rdCh_at (rdCh_below HH.out BU.out) hcc
    simp only [Value.slice.injEq] at e
    obtain ⟨rfl, _, rfl⟩ := e
    have HR := hid hR
    clear HK hR hcc
    go_wp2
    refine bodyPost_ret (v := lcV c.lc) (by simp [results, Try.results31, go_sem, *]) rfl ⟨by rw [HR.out], ?_⟩
    exact below_set (below_set (below_set BU.out (by omega) _) (by omega) _) (by omega) _

theorem rise_of_good {t : Tb.Tbl} (h : Tb.tableE t = 0) : Tb.Rise t.ch ∧ t.ch.length ≤ 1000 := by
  obtain ⟨g1, _, g3⟩ := Tb.good_parts h
  exact ⟨(Tb.goE_rise t.ch t.first none g3).1, g1⟩
/- what Look says is wrong -/
def Tb.lookErr (t : Tb.Tbl) (at_ : Int) : Int := if Tb.tableE t ≠ 0 then Tb.tableE t else if Tb.inYears at_ = false then 3 else 0
def Tb.lookO (t : Tb.Tbl) (at_ : Int) : Tb.Lc := if Tb.lookErr t at_ = 0 then Tb.look t at_ else lc0
set_option maxRecDepth 100000 in
set_option maxHeartbeats 4000000 in
theorem pLook_any (t : Tb.Tbl) (v : Value) (n : Int) (w : World) (h : RdCh w v t.ch) (hS : Tb.Sized t) :
    Calls Try.prog 15 #[tbV t.first v, .int .i64 n] w fun e w' => e = .returned (.tuple #[lcV (Tb.lookO t n), .int .i64 (Tb.lookErr t n)]) ∧ Below w.heap.size w w' := by
  have h' := h
  obtain ⟨a, cap, rfl, hc⟩ := h'
  clear hc
  obtain ⟨E, hE⟩ : ∃ E, Tb.tableE t = E := ⟨_, rfl⟩
  obtain ⟨T, hT⟩ : ∃ T, Tb.inYears n = T := ⟨_, rfl⟩
  have HC : Hid (∀ W, Below w.heap.size w W → Calls Try.prog 18 #[tbV t.first (.slice a t.ch.length cap)] W fun e w' => e = .returned (.int .i64 E) ∧ Below W.heap.size W w') := fun W hW => by
    rw [← hE]; exact pCheck_any t _ W (rdCh_below h hW) hS
  have HM : Hid (E = 0 → ∀ W, Below w.heap.size w W → Calls Try.prog 31 #[tbV t.first (.slice a t.ch.length cap), .int .i64 n] W fun e w' => e = .returned (lcV (Tb.look t n)) ∧ Below W.heap.size W w') := fun h0 W hW =>
    momentLocal_any t _ n W (rdCh_below h hW) (rise_of_good (hE.trans h0)).1 (rise_of_good (hE.trans h0)).2
  have HT := hid hT
  obtain ⟨R, hR⟩ : ∃ R, Tb.lookErr t n = R := ⟨_, rfl⟩
  have HR : Hid (R = if E ≠ 0 then E else if T = false then 3 else 0) := by show _ = _; rw [← hR, Tb.lookErr, hE, hT]
  obtain ⟨K, hK⟩ : ∃ K, Tb.look t n = K := ⟨_, rfl⟩
  obtain ⟨Q, hQ⟩ : ∃ Q, Tb.lookO t n = Q := ⟨_, rfl⟩
  have HQ : Hid (Q = if R = 0 then K else lc0) := by show _ = _; rw [← hQ, Tb.lookO, hR, hK]
  rw [hR, hQ]
  rw [hK] at HM
  obtain ⟨f, ch⟩ := t
  dsimp only at HC HM ⊢
  clear hE hT hR h hS hK hQ
  obtain ⟨W0, hW⟩ : ∃ W0, (w.alloc (.cells (tbL f (.slice a ch.length cap)).toArray 26)).alloc (.cells (lcL lc0).toArray 23) = W0 := ⟨_, rfl⟩
  have B0 : Hid (Below w.heap.size w W0) := by
    rw [← hW]
    exact ((Below.refl _ _).alloc (Nat.le_refl _) _).alloc (by simp) _
  have X0 : Hid (CellsAt W0 w.heap.size (tbL f (.slice a ch.length cap))) := by rw [← hW]; exact ca_alloc (ca_new _ _ _) _
  have Z0 : Hid (CellsAt W0 (w.heap.size + 1) (lcL lc0)) := by
    rw [← hW]; show CellsAt _ _ _
    have := ca_new (w.alloc (.cells (tbL f (.slice a ch.length cap)).toArray 26)) (lcL lc0) 23
    simpa using this
  have HS := hid (HC.out W0 B0.out)
  have HW := hid hW
  clear hW HC
  rw [← HW.out] at HS
  go_enter Try.func15, Try.ntmps15
  go_wp2_with fail
  refine HS.out.mono ?_
  rintro e w1 ⟨rfl, hb1⟩
  rw [HW.out] at hb1
  have XU := hid (ca_below X0.out hb1)
  have ZU := hid (ca_below Z0.out hb1)
  have BU : Hid (Below w.heap.size w w1) := B0.out.trans (hb1.mono B0.out.size)
  clear HS X0 Z0 B0 HW hb1
  obtain ⟨x0, f0⟩ := ca_at XU.out 0 rfl
  obtain ⟨x1, f1⟩ := ca_at XU.out 1 rfl
  obtain ⟨x2, f2⟩ := ca_at XU.out 2 rfl
  obtain ⟨x3, f3⟩ := ca_at XU.out 3 rfl
  obtain ⟨z0, g0⟩ := ca_at ZU.out 0 rfl
  obtain ⟨z1, g1⟩ := ca_at ZU.out 1 rfl
  obtain ⟨z2, g2⟩ := ca_at ZU.out 2 rfl
  have sx := XU.out.1
  have sz := ZU.out.1
  by_cases h0 : E = 0
  case neg =>
    have HR2 : Hid (R = E) := by show _ = _; rw [HR.out, if_pos h0]
    have h0' : (E != 0) = true := by simp [h0]
    have HR3 : Hid (Q = lc0) := by show _ = _; rw [HQ.out, HR2.out, if_neg h0]
    clear HR HM HQ
    go_wp2
    refine bodyPost_ret (v := .tuple #[lcV lc0, .int .i64 E]) (by simp [results, Try.results15, go_sem, lc0, *]) rfl ⟨by rw [HR3.out, HR2.out], ?_⟩
    exact below_set (below_set (below_set BU.out (by omega) _) (by omega) _) (by omega) _
  have HM2 := hid (HM.out h0 w1 BU.out)
  subst h0
  clear HM
  cases T
  case false =>
    have HR2 : Hid (R = 3) := by show _ = _; rw [HR.out]; rfl
    have HR3 : Hid (Q = lc0) := by show _ = _; rw [HQ.out, HR2.out]; rfl
    clear HR HM2 HQ
    go_wp2_with (go_at_call 30; refine (pInYears_is _ _ HT.out).mono ?_; rintro e w2 ⟨rfl, rfl⟩)
    refine bodyPost_ret (v := .tuple #[lcV lc0, .int .i64 3]) (by simp [results, Try.results15, go_sem, lc0, *]) rfl ⟨by rw [HR3.out, HR2.out], ?_⟩
    exact below_set (below_set (below_set BU.out (by omega) _) (by omega) _) (by omega) _
  case true =>
    have HR2 : Hid (R = 0) := by show _ = _; rw [HR.out]; rfl
    have HR3 : Hid (Q = K) := by show _ = _; rw [HQ.out, HR2.out]; rfl
    clear HR HQ
    go_wp2_with (go_at_call 30; refine (pInYears_is _ _ HT.out).mono ?_; rintro e w2 ⟨rfl, rfl⟩)
    refine HM2.out.mono ?_
    rintro e w5 ⟨rfl, hb5⟩
    have ZV := hid (ca_below ZU.out hb5)
    have BV : Hid (Below w.heap.size w w5) := BU.out.trans (hb5.mono BU.out.size)
    clear HM2 XU ZU BU hb5 x0 f0 x1 f1 x2 f2 x3 f3 z0 g0 z1 g1 z2 g2 sx sz
    obtain ⟨z0, g0⟩ := ca_at ZV.out 0 rfl
    obtain ⟨z1, g1⟩ := ca_at ZV.out 1 rfl
    obtain ⟨z2, g2⟩ := ca_at ZV.out 2 rfl
    have sz := ZV.out.1
    go_wp2
    refine bodyPost_ret (v := .tuple #[lcV K, .int .i64 0]) (by simp [results, Try.results15, go_sem, lc0, *]) rfl ⟨by rw [HR3.out, HR2.out], ?_⟩
    exact below_set (below_set (below_set BV.out (by omega) _) (by omega) _) (by omega) _
end Go.Proofs.Ytnmdfbbfgiaijaa
