/- The contract of the document's CheckTable. -/
import Derived.Test.YtombhnjmelidcaaTbA
import Derived.Deep.RegionHeld3
import Derived.Deep.Cut
import Derived.Deep.CutRange
namespace Go.Proofs.Ytombhnjmelidcaa
open Go.RowKit
set_option linter.unusedVariables false
set_option linter.unusedSimpArgs false

def prevOf (ch : List Tb.Cg) : Nat → Option Int
  | 0 => none
  | k + 1 => (ch[k]?).map (·.at_)
set_option maxRecDepth 100000 in
set_option maxHeartbeats 4000000 in
theorem checkTable_any (t : Tb.Tbl) (v : Value) (w : World) (h : RdCh w v t.ch) (hl : t.ch.length ≤ maxLen) (hf : t.first.name.length ≤ maxLen) (hn : ∀ c ∈ t.ch, c.lc.name.length ≤ maxLen) :
    Calls Try.prog 12 #[tbV t.first v] w fun e w' => e = .returned (.int .i64 (Tb.tableE t)) ∧ Below w.heap.size w w' := by
  obtain ⟨f, ch⟩ := t
  obtain ⟨R, hR⟩ : ∃ R, Tb.tableE ⟨f, ch⟩ = R := ⟨_, rfl⟩
  rw [hR]
  have HR : Hid (R = if 1000 < ch.length then 2 else if Tb.localE f ≠ 0 then Tb.localE f else Tb.goE f none ch) := by show _ = _; rw [← hR]; rfl
  clear hR
  simp only at h hl hf hn
  have h' := h
  obtain ⟨a, cap, rfl, hc⟩ := h'
  have H := hid h
  have HN := hid hn
  have HF := hid hf
  clear h hc hn hf
  unfold maxLen at hl
  by_cases h1000 : 1000 < ch.length
  · have HR2 : Hid (R = 2) := by show _ = _; rw [HR.out, if_pos h1000]
    go_enter Try.func12, Try.ntmps12
    go_wp2_with fail
    go_ret
    exact ⟨ret_int (by rw [HR2.out]), (Below.refl _ _).alloc (Nat.le_refl _) _⟩
  have HR2 : Hid (R = if Tb.localE f ≠ 0 then Tb.localE f else Tb.goE f none ch) := by show _ = _; rw [HR.out, if_neg h1000]
  clear HR hl
  go_enter Try.func12, Try.ntmps12
  go_wp2_with fail
  refine (checkLocal_any f _ HF.out).mono ?_
  rintro e w1 ⟨rfl, hb1⟩
  obtain ⟨L, hL⟩ : ∃ L, Tb.localE f = L := ⟨_, rfl⟩
  rw [hL] at HR2
  rw [hL]
  clear hL
  have X1 : Hid (CellsAt w1 w.heap.size (tbL f (.slice a ch.length cap))) := ca_below (ca_new w (tbL f (.slice a ch.length cap)) 26) hb1
  have B1 : Hid (Below w.heap.size w w1) := ((Below.refl w.heap.size w).alloc (Nat.le_refl _) _).trans (hb1.mono (by simp))
  clear hb1
  by_cases h0 : L = 0
  case neg =>
    have HR3 : Hid (R = L) := by show _ = _; rw [HR2.out, if_pos h0]
    have h0' : (L != 0) = true := by simp [h0]
    go_wp2
    go_ret
    exact ⟨ret_int (by rw [HR3.out]), B1.out⟩
  have HR3 : Hid (R = Tb.goE f (prevOf ch 0) (ch.drop 0)) := by show _ = _; rw [HR2.out, if_neg (by simp [h0])]; rfl
  subst h0
  clear HR2
  obtain ⟨x0, f0⟩ := ca_at X1.out 0 rfl
  obtain ⟨x1, f1⟩ := ca_at X1.out 1 rfl
  obtain ⟨x2, f2⟩ := ca_at X1.out 2 rfl
  have sx := X1.out.1
  go_wp2_with fail
  obtain ⟨M, hM⟩ : ∃ M, w1.heap.size = M := ⟨_, rfl⟩
  have X2 := hid (ca_alloc X1.out (.cells (lcL f).toArray 23))
  have B2 := hid (Below.alloc B1.out B1.out.size (.cells (lcL f).toArray 23))
  have Y2 : Hid (CellsAt (w1.alloc (.cells (lcL f).toArray 23)) M (lcL f)) := by rw [← hM]; exact ca_new _ _ _
  have hNM : ¬ w.heap.size = M := by omega
  have hNM' : w.heap.size < M := by omega
  rw [hM]
  clear X1 B1 x0 f0 x1 f1 x2 f2 sx hM
  go_loopw [5] (fun b wr => ∃ (i : Nat) (o : Tb.Lc), i ≤ ch.length ∧ b = .int .i64 i ∧ Hid (R = Tb.goE o (prevOf ch i) (ch.drop i)) ∧ Hid (Below w.heap.size w wr) ∧ Hid (CellsAt wr w.heap.size (tbL f (.slice a ch.length cap))) ∧ Hid (CellsAt wr M (lcL o))) (fun b _ => ch.length - (intOf b).toNat)
  case atStart => exact ⟨0, f, by omega, rfl, HR3, B2, X2, Y2⟩
  case round =>
    clear B2 X2 Y2 HR3
    obtain ⟨i, o, hi, rfl, HR, B0, X0, Y0⟩ := hrel
    obtain ⟨x3, f3⟩ := ca_at X0.out 3 rfl
    have sx := X0.out.1
    have sy := Y0.out.1
    by_cases hlt : i < ch.length
    case neg =>
      have HR2 : Hid (R = 0) := by show _ = _; rw [HR.out, List.drop_eq_nil_of_le (by omega)]; rfl
      go_wp2
      go_ret
      exact ⟨ret_int (by rw [HR2.out]), B0.out⟩
    obtain ⟨c, hcc⟩ : ∃ c, ch[i]? = some c := ⟨_, List.getElem?_eq_getElem hlt⟩
    obtain ⟨bb, bo, bcap, e, hbb, c0, c1, c2, c3⟩ := rdCh_at (rdCh_below H.out B0.out) hcc
    simp only [Value.slice.injEq] at e
    obtain ⟨rfl, _, rfl⟩ := e
    have HC := hid hcc
    have HR1 : Hid (R = Tb.goE o (prevOf ch i) (c :: ch.drop (i + 1))) := by show _ = _; rw [HR.out, Tb.drop_get hcc]
    clear hcc HR
    have BV := hid (Below.alloc B0.out B0.out.size (.cells (cgCells c).toArray 32))
    have XV := hid (ca_alloc X0.out (.cells (cgCells c).toArray 32))
    have YV := hid (ca_alloc Y0.out (.cells (cgCells c).toArray 32))
    have ZV := hid (ca_new wr (cgCells c) 32)
    obtain ⟨C, hC⟩ : ∃ C, wr.heap.size = C := ⟨_, rfl⟩
    have hMC : M < C := by omega
    have hNC : w.heap.size < C := by omega
    rw [hC] at ZV
    go_wp2_with fail
    obtain ⟨V, hV⟩ : ∃ V, wr.alloc (.cells (cgCells c).toArray 32) = V := ⟨_, rfl⟩
    rw [show wr.alloc (.cells #[.int .i64 c.at_, .int .i64 c.lc.shift, .int .i64 c.lc.save, .string ⟨c.lc.name.toArray⟩] 32) = V from hV]
    rw [hV] at BV XV YV ZV
    clear hV hC B0 X0 Y0 x3 f3 sx sy c0 c1 c2 c3 hbb
    have z0 : V.cell? ⟨C, 0, none⟩ = some (.int .i64 c.at_) := (ca_at ZV.out 0 rfl).1
    have sz := ZV.out.1
    obtain ⟨T, hT⟩ : ∃ T, Sx.inB c.at_ Tb.least Tb.most = T := ⟨_, rfl⟩
    have HT := hid hT
    have HT' : Hid (decide ((-62135596800 : Int) ≤ c.at_ ∧ c.at_ ≤ 253402300799) = T) := hT
    clear hT
    go_region_held3 (fun w' => w'.cell? ⟨C, 0, none⟩ = some (.int .i64 c.at_)) (first | go_keep | exact z0 | exact (hb3.cell (p := ⟨C, 0, none⟩) hs2).trans ((hb2.cell (p := ⟨C, 0, none⟩) hs1).trans z0) | exact (hb2.cell (p := ⟨C, 0, none⟩) hs1).trans z0)
      (first | (go_at_call 32; refine (least_any _).mono ?_; first | (rintro e w3 ⟨rfl, hb3⟩; have hs2 : C < w2.heap.size := Nat.lt_of_lt_of_le hs1 hb2.size) | (rintro e w2 ⟨rfl, hb2⟩; have hs1 : C < V.drew.heap.size := sz)) | (go_at_call 33; refine (most_any _).mono ?_; first | (rintro e w3 ⟨rfl, hb3⟩; have hs2 : C < w2.heap.size := Nat.lt_of_lt_of_le hs1 hb2.size) | (rintro e w2 ⟨rfl, hb2⟩; have hs1 : C < V.drew.heap.size := sz)) | (go_at_call 31; refine (between_is c.at_ (-62135596800) 253402300799 _ HT'.out).mono ?_; rintro e w4 ⟨rfl, rfl⟩))
    all_goals
      have q0 : Below V.heap.size V V.drew := ⟨rfl, rfl, rfl, Nat.le_refl _, fun _ _ => rfl⟩
      have BB : Below V.heap.size V w4 := (q0.trans hb2).trans (hb3.mono hb2.size)
      have XW := hid (ca_below XV.out BB)
      have YW := hid (ca_below YV.out BB)
      have ZW := hid (ca_below ZV.out BB)
      have BW : Hid (Below w.heap.size w w4) := BV.out.trans (BB.mono BV.out.size)
      clear XV YV ZV BV BB q0 hb2 hb3 hs1 hs2 z0 sz
      obtain ⟨z0, g0⟩ := ca_at ZW.out 0 rfl
      obtain ⟨z1, g1⟩ := ca_at ZW.out 1 rfl
      obtain ⟨z2, g2⟩ := ca_at ZW.out 2 rfl
      obtain ⟨z3, g3⟩ := ca_at ZW.out 3 rfl
      obtain ⟨x3, f3⟩ := ca_at XW.out 3 rfl
      have sz := ZW.out.1
      have sx := XW.out.1
      have sy := YW.out.1
      cases T
      · have HR2 : Hid (R = 3) := by show _ = _; rw [HR1.out]; exact Tb.goE_1 HT.out
        clear HT HT' HR1
        go_wp2
        go_ret
        exact ⟨ret_int (by rw [HR2.out]), BW.out⟩
      cases i with
      | zero =>
        clear HT'
        go_wp2_with fail
        go_quiet (fail)
        go_wp2_with fail
        refine (checkLocal_any c.lc _ (HN.out c (List.mem_of_getElem? HC.out))).mono ?_
        rintro e w5 ⟨rfl, hb5⟩
        have BB : Below w4.heap.size w4 w5 := (below_drewN (Below.refl _ _) nq).trans (by simpa using hb5)
        have XU := hid (ca_below XW.out BB)
        have YU := hid (ca_below YW.out BB)
        have ZU := hid (ca_below ZW.out BB)
        have BU : Hid (Below w.heap.size w w5) := BW.out.trans (BB.mono BW.out.size)
        clear XW YW ZW BW BB hb5 z0 g0 z1 g1 z2 g2 z3 g3 x3 f3 sz sx sy
        obtain ⟨L, hL⟩ : ∃ L, Tb.localE c.lc = L := ⟨_, rfl⟩
        have HL0 := hid hL
        rw [hL]
        clear hL
        by_cases h0 : L = 0
        case neg =>
          have HR2 : Hid (R = L) := by show _ = _; rw [HR1.out]; exact (Tb.goE_3 HT.out rfl (by rw [HL0.out]; exact h0)).trans HL0.out
          have h0' : (L != 0) = true := by simp [h0]
          clear HR1 HT HL0
          go_wp2
          go_ret
          exact ⟨ret_int (by rw [HR2.out]), BU.out⟩
        subst h0
        obtain ⟨z1, g1⟩ := ca_at ZU.out 1 rfl
        obtain ⟨z2, g2⟩ := ca_at ZU.out 2 rfl
        obtain ⟨z3, g3⟩ := ca_at ZU.out 3 rfl
        obtain ⟨y0, k0⟩ := ca_at YU.out 0 rfl
        obtain ⟨y1, k1⟩ := ca_at YU.out 1 rfl
        obtain ⟨y2, k2⟩ := ca_at YU.out 2 rfl
        have sz := ZU.out.1
        have sx := XU.out.1
        have sy := YU.out.1
        by_cases hE : c.lc = o
        · have HR2 : Hid (R = 4) := by show _ = _; rw [HR1.out]; exact Tb.goE_4 HT.out rfl HL0.out hE
          clear HR1 HT HL0
          subst hE
          go_wp2
          go_ret
          exact ⟨ret_int (by rw [HR2.out]), BU.out⟩
        · have HR2 : Hid (R = Tb.goE c.lc (some c.at_) (ch.drop (0 + 1))) := by show _ = _; rw [HR1.out]; exact Tb.goE_5 HT.out rfl HL0.out hE
          clear HR1 HT HL0
          obtain ⟨ca, ⟨cs, cv, cn⟩⟩ := c
          obtain ⟨os, ov, on⟩ := o
          dsimp only at y0 y1 y2 z1 z2 z3 ⊢
          have h3 : ¬ cs = os ∨ (cs = os ∧ ¬ cv = ov) ∨ (cs = os ∧ cv = ov ∧ ¬ cn = on) := by
            by_cases q1 : cs = os <;> by_cases q2 : cv = ov <;> by_cases q3 : cn = on <;> simp_all
          clear hE
          rcases h3 with h3 | ⟨rfl, h3⟩ | ⟨rfl, rfl, h3⟩
          all_goals
            go_wp2
            go_roundw
            case rel =>
              refine ⟨0 + 1, ⟨cs, cv, cn⟩, by omega, by go_num, ?_, ?_, ?_, ?_⟩
              · show R = _
                rw [HR2.out]
                congr 1
                simp [prevOf, HC.out]
              · exact below_set (below_set (below_set BU.out (by omega) _) (by omega) _) (by omega) _
              · exact ca_far (ca_far (ca_far XU.out (by omega)) (by omega)) (by omega)
              · exact ca_put (ca_put (ca_put YU.out 0 _ (by simp)) 1 _ (by simp)) 2 _ (by simp)
            case measure => simp [intOf]; omega
      | succ k =>
        obtain ⟨d, hd⟩ : ∃ d, ch[k]? = some d := ⟨_, List.getElem?_eq_getElem (by omega)⟩
        obtain ⟨bb', bo', bcap', e, hbb, d0, d1, d2, d3⟩ := rdCh_at (rdCh_below H.out BW.out) hd
        simp only [Value.slice.injEq, Option.some.injEq, Addr.mk.injEq] at e
        obtain ⟨⟨rfl, rfl, _⟩, _, rfl⟩ := e
        clear HT'
        by_cases hp : c.at_ ≤ d.at_
        · have HR2 : Hid (R = 4) := by show _ = _; rw [HR1.out]; exact Tb.goE_2 HT.out (by simp [prevOf, hd, Tb.late, hp])
          clear hd HT HR1
          go_wp2_with fail
          go_quiet (fail)
          go_wp2_with fail
          go_ret
          exact ⟨ret_int (by rw [HR2.out]), below_drewN BW.out _⟩
        · have HL : Hid (Tb.late (prevOf ch (k + 1)) c.at_ = false) := by show _ = _; simp [prevOf, hd, Tb.late]; omega
          clear hd
          go_wp2_with fail
          go_quiet (fail)
          go_wp2_with fail
          refine (checkLocal_any c.lc _ (HN.out c (List.mem_of_getElem? HC.out))).mono ?_
          rintro e w5 ⟨rfl, hb5⟩
          have BB : Below w4.heap.size w4 w5 := (below_drewN (Below.refl _ _) nq).trans (by simpa using hb5)
          have XU := hid (ca_below XW.out BB)
          have YU := hid (ca_below YW.out BB)
          have ZU := hid (ca_below ZW.out BB)
          have BU : Hid (Below w.heap.size w w5) := BW.out.trans (BB.mono BW.out.size)
          clear XW YW ZW BW BB hb5 z0 g0 z1 g1 z2 g2 z3 g3 x3 f3 sz sx sy
          obtain ⟨L, hL⟩ : ∃ L, Tb.localE c.lc = L := ⟨_, rfl⟩
          have HL0 := hid hL
          rw [hL]
          clear hL
          by_cases h0 : L = 0
          case neg =>
            have HR2 : Hid (R = L) := by show _ = _; rw [HR1.out]; exact (Tb.goE_3 HT.out HL.out (by rw [HL0.out]; exact h0)).trans HL0.out
            have h0' : (L != 0) = true := by simp [h0]
            clear HR1 HT HL0
            go_wp2
            go_ret
            exact ⟨ret_int (by rw [HR2.out]), BU.out⟩
          subst h0
          obtain ⟨z1, g1⟩ := ca_at ZU.out 1 rfl
          obtain ⟨z2, g2⟩ := ca_at ZU.out 2 rfl
          obtain ⟨z3, g3⟩ := ca_at ZU.out 3 rfl
          obtain ⟨y0, k0⟩ := ca_at YU.out 0 rfl
          obtain ⟨y1, k1⟩ := ca_at YU.out 1 rfl
          obtain ⟨y2, k2⟩ := ca_at YU.out 2 rfl
          have sz := ZU.out.1
          have sx := XU.out.1
          have sy := YU.out.1
          by_cases hE : c.lc = o
          · have HR2 : Hid (R = 4) := by show _ = _; rw [HR1.out]; exact Tb.goE_4 HT.out HL.out HL0.out hE
            clear HR1 HT HL0
            subst hE
            go_wp2
            go_ret
            exact ⟨ret_int (by rw [HR2.out]), BU.out⟩
          · have HR2 : Hid (R = Tb.goE c.lc (some c.at_) (ch.drop ((k + 1) + 1))) := by show _ = _; rw [HR1.out]; exact Tb.goE_5 HT.out HL.out HL0.out hE
            clear HR1 HT HL0
            obtain ⟨ca, ⟨cs, cv, cn⟩⟩ := c
            obtain ⟨os, ov, on⟩ := o
            dsimp only at y0 y1 y2 z1 z2 z3 ⊢
            have h3 : ¬ cs = os ∨ (cs = os ∧ ¬ cv = ov) ∨ (cs = os ∧ cv = ov ∧ ¬ cn = on) := by
              by_cases q1 : cs = os <;> by_cases q2 : cv = ov <;> by_cases q3 : cn = on <;> simp_all
            clear hE
            rcases h3 with h3 | ⟨rfl, h3⟩ | ⟨rfl, rfl, h3⟩
            all_goals
              go_wp2
              go_roundw
              case rel =>
                refine ⟨k + 1 + 1, ⟨cs, cv, cn⟩, by omega, by go_num, ?_, ?_, ?_, ?_⟩
                · show R = _
                  rw [HR2.out]
                  congr 1
                  simp [prevOf, HC.out]
                · exact below_set (below_set (below_set BU.out (by omega) _) (by omega) _) (by omega) _
                · exact ca_far (ca_far (ca_far XU.out (by omega)) (by omega)) (by omega)
                · exact ca_put (ca_put (ca_put YU.out 0 _ (by simp)) 1 _ (by simp)) 2 _ (by simp)
              case measure => simp [intOf]; omega
end Go.Proofs.Ytombhnjmelidcaa
