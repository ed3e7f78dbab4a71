/- The walk of WireMore. -/
import Derived.Test.YtombhnjmelidcaaWlA
import Derived.Test.YtombhnjmelidcaaWrF
namespace Go.Proofs.Ytombhnjmelidcaa
open Go.RowKit Go.Shelf
set_option linter.unusedVariables false
set_option linter.unusedSimpArgs false

set_option maxRecDepth 100000 in
set_option maxHeartbeats 8000000 in
theorem wireMore_is (t : Tb.Tbl) (v : Value) (w : World) (h : ArgT w t v) :
    Calls Try.prog 3 #[tbV t.first v] w fun e w' => e = .returned (.bool true) ∧ Below w.heap.size w w' := by
  obtain ⟨E, hE⟩ : ∃ E, Tb.tableE t = E := ⟨_, rfl⟩
  obtain ⟨EN, hEN⟩ : ∃ EN, Wr.encode t = EN := ⟨_, rfl⟩
  have HG : Hid (E = 0 → ∀ W, Below w.heap.size w W → Calls Try.prog 10 #[tbV t.first v] W fun e w' => e = .returned (.tuple #[strV EN, .int .i64 0]) ∧ Below W.heap.size W w') := fun q W hW => by
    rw [← hEN]; exact encode_good (rdCh_below h.rd hW) h.sized (hE.trans q)
  have HBD : Hid (E ≠ 0 → ∀ W, Below w.heap.size w W → Calls Try.prog 10 #[tbV t.first v] W fun e w' => e = .returned (.tuple #[.string ⟨#[]⟩, .int .i64 E]) ∧ Below W.heap.size W w') := fun q W hW => encode_bad (rdCh_below h.rd hW) h.sized hE q
  have HGD : Hid (E = 0 → Tb.tableE t = 0) := fun q => hE.trans q
  have HEN := hid hEN
  clear hE hEN
  obtain ⟨f, ch⟩ := t
  dsimp only at *
  have HA := hid h
  obtain ⟨va, vcap, rfl, _⟩ := h.rd
  have hcap := h.caps _ _ _ rfl
  clear h
  obtain ⟨N, hN⟩ : ∃ N, w.heap.size = N := ⟨_, rfl⟩
  obtain ⟨W0, hW⟩ : ∃ W0, w.alloc (.cells (tbC f (.slice va ch.length vcap)).toArray 26) = W0 := ⟨_, rfl⟩
  have B0 : Hid (Below w.heap.size w W0) := by rw [← hW]; exact (Below.refl _ _).alloc (Nat.le_refl _) _
  have T0 : Hid (CellsAt W0 N (tbC f (.slice va ch.length vcap))) := by rw [← hW, ← hN]; exact ca_new _ _ _
  go_enter Try.func3, Try.ntmps3
  go_wp2_with fail
  refine (wireBegun_is _).mono ?_
  rintro e w1 ⟨rfl, hb1⟩
  have T1 := hid (ca_below T0.out hb1)
  have B1 : Hid (Below w.heap.size w w1) := B0.out.trans (hb1.mono B0.out.size)
  clear T0 B0 hb1 hW hN
  obtain ⟨-, ⟨t0, t1, t2, t3⟩, -, st⟩ := res4' T1.out
  by_cases h0 : E = 0
  case neg =>
    have h0' : (E != 0) = true := by simp [h0]
    have C1 := hid (HBD.out h0 w1 B1.out)
    clear HG HBD HGD
    go_wp2_with fail
    refine C1.out.mono ?_
    rintro e w2 ⟨rfl, hb2⟩
    have B2 : Hid (Below w.heap.size w w2) := B1.out.trans (hb2.mono B1.out.size)
    go_wp2
    go_ret
    exact ⟨rfl, B2.out⟩
  have C1 := hid (HG.out h0 w1 B1.out)
  have HG0 := hid (HGD.out h0)
  subst h0
  clear HG HBD HGD
  have lch : ch.length ≤ 1000 := (Tb.good_parts HG0.out).1
  have lfn : f.name.length ≤ 24 := (Tb.goodL_bd (Tb.good_parts HG0.out).2.1).2.2.2.2.2.1
  go_wp2_with fail
  refine C1.out.mono ?_
  rintro e w2 ⟨rfl, hb2⟩
  have T2 := hid (ca_below T1.out hb2)
  have B2 : Hid (Below w.heap.size w w2) := B1.out.trans (hb2.mono B1.out.size)
  clear B1 T1 C1 hb2 t0 t1 t2 t3 st
  obtain ⟨-, ⟨t0, t1, t2, t3⟩, -, st⟩ := res4' T2.out
  rcases List.eq_nil_or_concat ch with hnil | ⟨ch', c, hcc⟩
  · subst hnil
    have hl : (EN.length : Int) = 12 + f.name.length := by rw [← HEN.out, Wr.encode_none]; omega
    have hl' : EN.length = 12 + f.name.length := by omega
    clear hl
    go_wp2
    go_ret
    exact ⟨ret_bool (by simp), B2.out⟩
  · have hcc' : ch = ch' ++ [c] := by simpa using hcc
    clear hcc
    have HCC := hid hcc'
    obtain ⟨m, hm⟩ : ∃ m, ch'.length = m := ⟨_, rfl⟩
    have hk : ch.length = m + 1 := by rw [hcc', List.length_append, hm]; rfl
    have hgt : ch[m]? = some c := by rw [hcc', ← hm]; simp
    have hget' : ∀ i, i < m → ch[i]? = ch'[i]? := fun i hi => by rw [hcc', List.getElem?_append_left (by omega)]
    have HG' := hid hget'
    have HGU : Hid (Tb.tableE ⟨f, ch'⟩ = 0) := Wr.good_pre (by rw [← hcc']; exact HG0.out)
    have HEL : Hid (EN.length = (Wr.encode ⟨f, ch'⟩).length + (if Wr.freshTo c.lc f ch' ch'.length = true then 7 + (6 + c.lc.name.length) else 7)) := by show _ = _; rw [← HEN.out, hcc', Wr.encode_snoc]
    have HMM := hid hm
    have lcn : c.lc.name.length ≤ 24 := (Tb.goodL_bd ((Tb.goE_rise ch f none (Tb.good_parts HG0.out).2.2).2.1 c (List.mem_of_getElem? hgt)).2.2).2.2.2.2.2.1
    have len1 : EN.length ≤ 100000 := by rw [← HEN.out]; exact encode_len HG0.out
    have len2 : (Wr.encode ⟨f, ch'⟩).length ≤ 100000 := encode_len HGU.out
    obtain ⟨EN', hEN'⟩ : ∃ EN', Wr.encode ⟨f, ch'⟩ = EN' := ⟨_, rfl⟩
    rw [hEN'] at HEL len2
    have HEN' := hid hEN'
    clear hEN' hcc' hm hget'
    obtain ⟨cb, co, ccap, e, hcb, c0, c1, c2, c3⟩ := rdCh_at (rdCh_below HA.out.rd B2.out) hgt
    simp only [Value.slice.injEq] at e
    obtain ⟨rfl, _, rfl⟩ := e
    have hk1 : (ch.length : Int) - 1 = m := by omega
    have hml : m < ch.length := by omega
    have hmc : m ≤ vcap := by have := hcap.1; omega
    have hmc' : (m : Int) ≤ vcap := by omega
    have hne : ¬ ch.length = 0 := by omega
    have HK := hid hk
    clear hgt hk
    obtain ⟨W3, hW3⟩ : ∃ W, w2.alloc (.cells (cgCells c).toArray 32) = W := ⟨_, rfl⟩
    obtain ⟨C, hC⟩ : ∃ C, w2.heap.size = C := ⟨_, rfl⟩
    have T3 := hid (ca_alloc T2.out (.cells (cgCells c).toArray 32))
    rw [hW3] at T3
    have C3 : Hid (CellsAt W3 C (cgCells c)) := by rw [← hW3, ← hC]; exact ca_new _ _ _
    have B3 : Hid (Below w.heap.size w W3) := by rw [← hW3]; exact B2.out.alloc B2.out.size _
    have HW3 : w2.alloc (.cells #[.int .i64 c.at_, .int .i64 c.lc.shift, .int .i64 c.lc.save, strV c.lc.name] 32) = W3 := hW3
    clear hW3 T2 B2
    go_wp2_with fail
    clear HW3 hC c0 c1 c2 c3 hcb t0 t1 t2 t3 st
    obtain ⟨-, ⟨t0, t1, t2, t3⟩, -, st⟩ := res4' T3.out
    go_cut [7] from 44 to 50 (fun s7 wc => ∃ U, s7 = .pointer (some ⟨U, 0, none⟩) ∧ W3.heap.size ≤ U ∧ Hid (CellsAt wc U (tbC f (.slice (some ⟨cb, co, none⟩) m vcap))) ∧ Hid (Below W3.heap.size W3 wc))
    case first =>
      go_region
      all_goals
        go_wp2_with fail
        go_meet
        exact ⟨_, rfl, Nat.le_refl _, ca_new W3 (tbC f (.slice (some ⟨cb, co, none⟩) m vcap)) 26, ((Below.refl _ _).alloc (Nat.le_refl _) _).trans (below_drew _ _)⟩
    case rest =>
    obtain ⟨U, rfl, hU, U4, b4⟩ := hcut
    have C4 := hid (ca_below C3.out b4.out)
    have B4 : Hid (Below w.heap.size w wc) := B3.out.trans (b4.out.mono B3.out.size)
    have R4 : Hid (RdCh wc (.slice (some ⟨cb, co, none⟩) m vcap) ch') := by
      have := rdCh_take (c' := vcap) (rdCh_below HA.out.rd B4.out) m (by rw [HK.out]; omega)
      rw [show ch.take m = ch' by rw [HCC.out, ← HMM.out]; simp] at this
      exact this
    have SU : Hid (Tb.Sized ⟨f, ch'⟩) := ⟨by simp only; rw [HMM.out]; unfold maxLen; omega, HA.out.sized.first, fun x hx => HA.out.sized.names x (by rw [HCC.out]; simp; exact .inl hx)⟩
    have CE := hid (encode_good (t := ⟨f, ch'⟩) R4.out SU.out HGU.out)
    rw [HEN'.out] at CE
    have CU : C < U := by have := C3.out.1; omega
    clear T3 C3 B3 b4 t0 t1 t2 t3 st
    obtain ⟨-, ⟨u0, u1, u2, u3⟩, -, su⟩ := res4' U4.out
    go_wp2_with fail
    refine CE.out.mono ?_
    rintro e w5 ⟨rfl, hb5⟩
    have U5 := hid (ca_below U4.out hb5)
    have C5 := hid (ca_below C4.out hb5)
    have B5 : Hid (Below w.heap.size w w5) := B4.out.trans (hb5.mono B4.out.size)
    clear U4 C4 B4 R4 CE hb5 u0 u1 u2 u3 su
    obtain ⟨-, ⟨u0, u1, u2, u3⟩, -, su⟩ := res4' U5.out
    obtain ⟨-, ⟨d0, d1, d2, d3⟩, -, sd⟩ := res4' C5.out
    have HZ := hid (Wr.fresh_zero c.lc f ch')
    obtain ⟨Z, hZ⟩ : ∃ Z, Wr.freshTo c.lc f ch' 0 = Z := ⟨_, rfl⟩
    have HZ2 := hid hZ
    clear hZ
    go_upto_region 12 with fail
    go_cut [9] from 56 to 60 (fun s9 wc => s9 = .bool Z ∧ wc = w5)
    case first =>
      by_cases hfc : f = c.lc
      · have hz : Z = false := by rw [← HZ2.out, HZ.out]; simp [hfc]
        subst hz
        subst hfc
        go_wp2_with fail
        go_meet
        exact ⟨rfl, rfl⟩
      · have hz : Z = true := by rw [← HZ2.out, HZ.out]; simp [hfc]
        subst hz
        have h4 := lc_cases hfc
        clear hfc HZ HZ2
        obtain ⟨fs, fv, fn⟩ := f
        obtain ⟨cat, ⟨cs, cv, cn⟩⟩ := c
        dsimp only at u0 u1 u2 d1 d2 d3 h4
        rcases h4 with h4 | ⟨rfl, h4⟩ | ⟨rfl, rfl, h4⟩
        all_goals
          go_wp2_with fail
          go_meet
          exact ⟨rfl, rfl⟩
    case rest =>
    obtain ⟨rfl, hwc⟩ := hcut
    subst hwc
    clear HZ u0 u1 u2 u3 su d0 d1 d2 d3 sd
    go_wp2_with fail
    go_loopw [9, 10] (fun s9 s10 wr => ∃ (i : Nat) (F : Bool), i ≤ m ∧ s10 = .int .i64 i ∧ s9 = .bool F ∧ Hid (Wr.freshTo c.lc f ch' i = F) ∧ Hid (CellsAt wr U (tbC f (.slice (some ⟨cb, co, none⟩) m vcap))) ∧ Hid (CellsAt wr C (cgCells c)) ∧ Hid (Below w.heap.size w wr)) (fun _ s10 _ => m - (intOf s10).toNat)
    case atStart => exact ⟨0, Z, by omega, rfl, rfl, HZ2, U5, C5, B5⟩
    case round =>
      clear HZ2 U5 C5 B5
      obtain ⟨i, F, hi, rfl, rfl, HF, U0, C0, B0⟩ := hrel
      obtain ⟨-, ⟨u0, u1, u2, u3⟩, -, su⟩ := res4' U0.out
      obtain ⟨-, ⟨d0, d1, d2, d3⟩, -, sd⟩ := res4' C0.out
      by_cases q : i < m
      · have hlt : i < ch.length := by omega
        obtain ⟨d, hd⟩ : ∃ d, ch[i]? = some d := ⟨_, List.getElem?_eq_getElem hlt⟩
        have hd' : ch'[i]? = some d := by rw [← HG'.out i q]; exact hd
        obtain ⟨db, dob, dcap, e, hdb, e0, e1, e2, e3⟩ := rdCh_at (rdCh_below HA.out.rd B0.out) hd
        simp only [Value.slice.injEq, Option.some.injEq, Addr.mk.injEq] at e
        obtain ⟨⟨rfl, rfl, _⟩, _, rfl⟩ := e
        have HN := hid (Wr.fresh_next (l := c.lc) (f := f) hd')
        have iz : (i : Int) < m := by omega
        clear hd hd'
        cases F
        · have HN2 : Hid (Wr.freshTo c.lc f ch' (i + 1) = false) := by show _ = _; rw [HN.out, HF.out]; rfl
          clear HN HF
          go_wp2_with fail
          go_quiet (fail)
          go_wp2
          go_roundw
          case rel => exact ⟨i + 1, false, by omega, by go_num, rfl, HN2, U0, C0, below_drewN B0.out _⟩
          case measure => simp [intOf]; omega
        · by_cases hdc : d.lc = c.lc
          · have HN2 : Hid (Wr.freshTo c.lc f ch' (i + 1) = false) := by show _ = _; rw [HN.out, HF.out]; simp [hdc]
            clear HN HF
            rw [hdc] at e1 e2 e3
            clear hdc
            go_wp2_with fail
            go_quiet (fail)
            go_wp2
            go_roundw
            case rel => exact ⟨i + 1, false, by omega, by go_num, rfl, HN2, U0, C0, below_drewN B0.out _⟩
            case measure => simp [intOf]; omega
          · have HN2 : Hid (Wr.freshTo c.lc f ch' (i + 1) = true) := by show _ = _; rw [HN.out, HF.out]; simp [hdc]
            have h4 := lc_cases hdc
            clear HN HF hdc
            obtain ⟨dat, ⟨ds, dv, dn⟩⟩ := d
            obtain ⟨cat, ⟨cs, cv, cn⟩⟩ := c
            dsimp only at d0 d1 d2 d3 e0 e1 e2 e3 h4
            rcases h4 with h4 | ⟨rfl, h4⟩ | ⟨rfl, rfl, h4⟩
            all_goals
              go_wp2_with fail
              go_quiet (fail)
              go_wp2
              go_roundw
              case rel => exact ⟨i + 1, true, by omega, by go_num, rfl, HN2, U0, C0, below_drewN B0.out _⟩
              case measure => simp [intOf]; omega
      · obtain rfl : i = m := by omega
        have iz : ¬ (i : Int) < i := by omega
        have hEL : EN.length = EN'.length + (if F = true then 7 + (6 + c.lc.name.length) else 7) := by rw [HEL.out, ← HF.out, HMM.out]
        cases F
        · have hEL2 : EN.length = EN'.length + 7 := by simpa using hEL
          clear hEL
          go_wp2
          go_ret
          exact ⟨ret_bool (by simp), B0.out⟩
        · have hEL2 : EN.length = EN'.length + (7 + (6 + c.lc.name.length)) := by simpa using hEL
          clear hEL
          go_wp2
          go_ret
          exact ⟨ret_bool (by simp), B0.out⟩
end Go.Proofs.Ytombhnjmelidcaa
