/- ref's own calls: State, Pack, Use, isGate, Shut, Gated. No condition but that words are words. -/
import Derived.Test.YtjkfecfldnhfiaaRefPart
namespace Go.Proofs.Ytjkfecfldnhfiaa
open Go.RowKit

set_option maxHeartbeats 1000000 in
theorem state_any (w : Nat) (hw : w < 18446744073709551616) (W : World) :
    Calls Try.prog 10 #[.int .u64 w] W fun e W' => e = .returned (.tuple #[.int .i64 (stateS w : Nat), .int .u64 (stateG w : Nat), .bool (stateOk w)]) ∧ Below W.heap.size W W' := by
  have H1 := Lib.hid (part0_2 w hw)
  have H2 := Lib.hid (part2_64 w hw)
  have hP : stateS w = if stateOk w = true then w % 4 else 0 := rfl
  have hG : stateG w = if stateOk w = true then w / 4 else 0 := rfl
  have hO := stateOk_iff w
  have hlo : w % 4 < 4 := Nat.mod_lt _ (by omega)
  have hhi : w / 4 < 4611686018427387904 := by omega
  generalize w % 4 = lo at *
  generalize w / 4 = hi at *
  have hR := isUse_any (lo : Int) hi
  have he : isUseB (lo : Int) hi = stateOk w := by
    rw [Bool.eq_iff_iff, hO, isUseB_iff]; omega
  rw [he] at hR
  have HR := Lib.hid hR
  clear hR he
  cases ho : stateOk w with
  | true =>
    rw [ho] at HR
    rw [if_pos ho] at hP hG
    have HP := Lib.hid hP
    have HG := Lib.hid hG
    clear hP hG hO ho
    go_enter Try.func10, Try.ntmps10
    go_wp2_with fail
    refine (H1.out _).mono ?_
    rintro e w1 ⟨rfl, n1, hn1⟩
    subst hn1
    go_wp2_with fail
    refine (H2.out _).mono ?_
    rintro e w1 ⟨rfl, n2, hn2⟩
    subst hn2
    go_wp2_with fail
    refine (HR.out _).mono ?_
    rintro e w1 ⟨rfl, rfl⟩
    go_wp2
    go_ret3
    exact ⟨by rw [HP.out, HG.out]; rfl, (drewN_below W _)⟩
  | false =>
    rw [ho] at HR
    rw [ho] at hP hG
    have HP : Hid (stateS w = 0) := Lib.hid (by rw [hP]; rfl)
    have HG : Hid (stateG w = 0) := Lib.hid (by rw [hG]; rfl)
    clear hP hG hO ho
    go_enter Try.func10, Try.ntmps10
    go_wp2_with fail
    refine (H1.out _).mono ?_
    rintro e w1 ⟨rfl, n1, hn1⟩
    subst hn1
    go_wp2_with fail
    refine (H2.out _).mono ?_
    rintro e w1 ⟨rfl, n2, hn2⟩
    subst hn2
    go_wp2_with fail
    refine (HR.out _).mono ?_
    rintro e w1 ⟨rfl, rfl⟩
    go_wp2
    go_ret3
    exact ⟨by rw [HP.out, HG.out]; rfl, (drewN_below W _)⟩

set_option maxHeartbeats 1000000 in
theorem pack_any (p : Int) (g : Nat) (hp : -9223372036854775808 ≤ p ∧ p ≤ 9223372036854775807) (hg : g < 18446744073709551616) (W : World) :
    Calls Try.prog 12 #[.int .i64 p, .int .u64 g] W fun e W' => e = .returned (.int .u64 (packW p g : Nat)) ∧ Below W.heap.size W W' := by
  have hR := isRef_any p g
  have hi := isRefB_iff p g
  have hP : packW p g = if 0 ≤ p ∧ p < 8192 ∧ 1 ≤ g ∧ g ≤ 4294967295 then g * 16384 + p.toNat + 1 else 0 := rfl
  by_cases h : 0 ≤ p ∧ p < 8192 ∧ 1 ≤ g ∧ g ≤ 4294967295
  · rw [hi.2 h] at hR
    have HR := Lib.hid hR
    rw [if_pos h] at hP
    obtain ⟨h1, h2, h3, h4⟩ := h
    have ho := or_u64 14 g (p.toNat + 1) (by omega) (by omega) (by omega)
    have ho' : bits .or .u64 ((g : Int) * 16384) (p + 1) = ((packW p g : Nat) : Int) := by
      rw [show (g : Int) * 16384 = ((2 ^ 14 * g : Nat) : Int) by omega, show p + 1 = ((p.toNat + 1 : Nat) : Int) by omega, ho, hP]; omega
    have HO := Lib.hid ho'
    have g5 : (g : Int) * 16384 ≤ 70368744161280 := by omega
    clear hi hR hP ho ho' hp hg
    go_enter Try.func12, Try.ntmps12
    go_wp2_with fail
    refine (HR.out _).mono ?_
    rintro e w1 ⟨rfl, rfl⟩
    go_wp2
    go_ret
    exact ⟨ret_u64 HO.out, Below.refl _ _⟩
  · rw [bool_not hi h] at hR
    have HR := Lib.hid hR
    rw [if_neg h] at hP
    have HP := Lib.hid hP
    clear hi hR hP hp hg h
    go_enter Try.func12, Try.ntmps12
    go_wp2_with fail
    refine (HR.out _).mono ?_
    rintro e w1 ⟨rfl, rfl⟩
    go_wp2
    go_ret
    exact ⟨by rw [HP.out]; rfl, Below.refl _ _⟩

set_option maxHeartbeats 1000000 in
theorem use_any (p : Int) (g : Nat) (hp : -9223372036854775808 ≤ p ∧ p ≤ 9223372036854775807) (hg : g < 18446744073709551616) (W : World) :
    Calls Try.prog 14 #[.int .i64 p, .int .u64 g] W fun e W' => e = .returned (.int .u64 (useW p g : Nat)) ∧ Below W.heap.size W W' := by
  have hR := isUse_any p g
  have hi := isUseB_iff p g
  have hP : useW p g = if 0 ≤ p ∧ p ≤ 2 ∧ g ≤ 4294967295 then g * 4 + p.toNat else 18446744073709551615 := rfl
  by_cases h : 0 ≤ p ∧ p ≤ 2 ∧ g ≤ 4294967295
  · rw [hi.2 h] at hR
    have HR := Lib.hid hR
    rw [if_pos h] at hP
    obtain ⟨h1, h2, h4⟩ := h
    have ho := or_u64 2 g p.toNat (by omega) (by omega) (by omega)
    have ho' : bits .or .u64 ((g : Int) * 4) p = ((useW p g : Nat) : Int) := by
      refine Eq.trans ?_ (ho.trans (by rw [hP]; omega))
      rw [show (g : Int) * 4 = ((2 ^ 2 * g : Nat) : Int) by omega, show ((p.toNat : Nat) : Int) = p by omega]
    have HO := Lib.hid ho'
    have g5 : (g : Int) * 4 ≤ 70368744161280 := by omega
    clear hi hR hP ho ho' hp hg
    go_enter Try.func14, Try.ntmps14
    go_wp2_with fail
    refine (HR.out _).mono ?_
    rintro e w1 ⟨rfl, rfl⟩
    go_wp2
    go_ret
    exact ⟨ret_u64 HO.out, Below.refl _ _⟩
  · rw [bool_not hi h] at hR
    have HR := Lib.hid hR
    rw [if_neg h] at hP
    have HP := Lib.hid hP
    clear hi hR hP hp hg h
    go_enter Try.func14, Try.ntmps14
    go_wp2_with fail
    refine (HR.out _).mono ?_
    rintro e w1 ⟨rfl, rfl⟩
    go_wp2
    go_ret
    exact ⟨by rw [HP.out]; rfl, Below.refl _ _⟩

set_option maxHeartbeats 2000000 in
theorem isGate_any (s t : Int) (w : Nat) (hw : w < 18446744073709551616) (W : World) :
    Calls Try.prog 33 #[.agg #[.int .i64 s, .int .i64 t, .int .u64 w]] W fun e W' => e = .returned (.bool (mayG s t w)) ∧ Below W.heap.size W W' := by
  have HB := Lib.hid (gate_below W (.cells #[.int .i64 s, .int .i64 t, .int .u64 w] 30))
  have HC := Lib.hid (fun W => open_any w hw W)
  have hways := may_ways s t w
  clear hw
  generalize mayG s t w = m at *
  generalize openP w = op at *
  generalize openG w = og at *
  generalize openOk w = ok at *
  rcases hways with ⟨h1, rfl⟩ | ⟨h1, h2, rfl⟩ | ⟨⟨h1, h2⟩, h⟩
  · go_enter Try.func33, Try.ntmps33
    go_wp2
    go_ret
    exact ⟨rfl, HB.out⟩
  · have h3 : 16 ≤ t := by omega
    clear h2
    go_enter Try.func33, Try.ntmps33
    go_wp2
    go_ret
    exact ⟨rfl, HB.out⟩
  · have h3 : ¬ 16 ≤ t := by omega
    clear h2
    rcases h with ⟨h4, ⟨a1, a2, rfl⟩ | ⟨a1, rfl⟩ | ⟨a1, a2, rfl⟩⟩ | ⟨h4, h5 | ⟨h5, h6⟩, ⟨a1, rfl⟩ | ⟨a1, rfl⟩⟩ | ⟨h4, h5, h6, ⟨a1, rfl⟩ | ⟨a1, rfl⟩⟩
    case inr.inr.inr.inr.inl =>
      go_enter Try.func33, Try.ntmps33
      go_wp2_with fail
      refine (HC.out _).mono ?_
      rintro e w1 ⟨rfl, hb1⟩
      have H := Lib.hid (HB.out.trans (hb1.mono HB.out.size))
      clear hb1
      go_wp2
      go_ret
      exact ⟨rfl, H.out⟩
    all_goals
      go_enter Try.func33, Try.ntmps33
      go_wp2
      go_ret
      exact ⟨rfl, HB.out⟩

set_option maxHeartbeats 2000000 in
theorem shut_any (s t : Int) (w : Nat) (hs : -9223372036854775808 ≤ s ∧ s ≤ 9223372036854775807) (ht : -9223372036854775808 ≤ t ∧ t ≤ 9223372036854775807) (hw : w < 18446744073709551616) (W : World) :
    Calls Try.prog 19 #[.agg #[.int .i64 s, .int .i64 t, .int .u64 w]] W fun e W' => e = .returned (.int .u64 (shutW s t w : Nat)) ∧ Below W.heap.size W W' := by
  have hb := gate_below W (.cells #[.int .i64 s, .int .i64 t, .int .u64 w] 30)
  have HB := Lib.hid hb
  have HM := Lib.hid (isGate_any s t w hw (W.alloc (.cells #[.int .i64 s, .int .i64 t, .int .u64 w] 30)))
  have hbd := @may_bounds s t w
  have hS : shutW s t w = if mayG s t w = true then s.toNat * 4611686018427387904 + t.toNat * 72057594037927936 + w else 18446744073709551615 := rfl
  clear hw hb
  generalize mayG s t w = m at *
  cases m with
  | false =>
    have HS : Hid (((shutW s t w : Nat) : Int) = 18446744073709551615) := Lib.hid (by rw [hS]; rfl)
    clear hS hbd
    go_enter Try.func19, Try.ntmps19
    go_wp2_with fail
    refine HM.out.mono ?_
    rintro e w1 ⟨rfl, hb1⟩
    have H := Lib.hid (HB.out.trans (hb1.mono HB.out.size))
    clear hb1
    go_wp2
    go_ret
    exact ⟨by rw [HS.out]; rfl, H.out⟩
  | true =>
    obtain ⟨⟨h1, h2⟩, ⟨h3, h4⟩, h5⟩ := hbd rfl
    have HS : Hid (((shutW s t w : Nat) : Int) = s * 4611686018427387904 + t * 72057594037927936 + w) := Lib.hid (by rw [hS, if_pos rfl]; omega)
    have o1 := or_u64 62 s.toNat (t.toNat * 72057594037927936) (by omega) (by omega) (by omega)
    have o2 := or_u64 56 (s.toNat * 64 + t.toNat) w (by omega) (by omega) (by omega)
    have HO : Hid (bits .or .u64 (bits .or .u64 (s * 4611686018427387904) (t * 72057594037927936)) (w : Int) = s * 4611686018427387904 + t * 72057594037927936 + w) := Lib.hid (by
      rw [show s * 4611686018427387904 = ((2 ^ 62 * s.toNat : Nat) : Int) by omega, show t * 72057594037927936 = ((t.toNat * 72057594037927936 : Nat) : Int) by omega, o1,
        show ((2 ^ 62 * s.toNat + t.toNat * 72057594037927936 : Nat) : Int) = ((2 ^ 56 * (s.toNat * 64 + t.toNat) : Nat) : Int) by omega, o2]
      omega)
    have b1 : s * 4611686018427387904 ≤ 13835058055282163712 := by omega
    have b2 : t * 72057594037927936 ≤ 1080863910568919040 := by omega
    have b3 : 0 ≤ s * 4611686018427387904 := by omega
    have b4 : 0 ≤ t * 72057594037927936 := by omega
    clear hS hbd o1 o2
    go_enter Try.func19, Try.ntmps19
    go_wp2_with fail
    refine HM.out.mono ?_
    rintro e w1 ⟨rfl, hb1⟩
    have c0 := (hb1.cell (p := ⟨W.heap.size, 0, none⟩) (by simp)).trans (by rw [World.cell?_alloc_at _ _ _ _ (by simp)]; rfl : _ = some (.int .i64 s))
    have c1 := (hb1.cell (p := ⟨W.heap.size, 1, none⟩) (by simp)).trans (by rw [World.cell?_alloc_at _ _ _ _ (by simp)]; rfl : _ = some (.int .i64 t))
    have c2 := (hb1.cell (p := ⟨W.heap.size, 2, none⟩) (by simp)).trans (by rw [World.cell?_alloc_at _ _ _ _ (by simp)]; rfl : _ = some (.int .u64 (w : Nat)))
    have H := Lib.hid (HB.out.trans (hb1.mono HB.out.size))
    clear hb1
    go_wp2
    go_ret
    exact ⟨ret_u64 (HO.out.trans HS.out.symm), H.out⟩

/-- Two new blocks, draws between them, and a call that leaves both. -/
theorem two_gates (W : World) (n : Nat) (z g : Array Value) (tz tg : TypeId) (w1 : World) (h : Below (((W.alloc (.cells z tz)).drewN n).alloc (.cells g tg)).heap.size (((W.alloc (.cells z tz)).drewN n).alloc (.cells g tg)) w1) :
    Below W.heap.size W w1 ∧ w1.heap[W.heap.size]? = some (.cells z tz (0, 0)) ∧ w1.heap[W.heap.size + 1]? = some (.cells g tg (0, 0)) := by
  have e1 : ((W.alloc (.cells z tz)).drewN n).heap.size = W.heap.size + 1 := World.size_alloc _ _
  have z0 : (((W.alloc (.cells z tz)).drewN n).alloc (.cells g tg)).heap[W.heap.size]? = some (.cells z tz (0, 0)) := by
    rw [Below.heap_alloc _ _ _ (by rw [e1]; omega)]
    exact heap_alloc_new W _
  have z1 : (((W.alloc (.cells z tz)).drewN n).alloc (.cells g tg)).heap[W.heap.size + 1]? = some (.cells g tg (0, 0)) := by
    have := heap_alloc_new ((W.alloc (.cells z tz)).drewN n) (.cells g tg)
    rw [e1] at this
    exact this
  have hb0 : Below W.heap.size W ((W.alloc (.cells z tz)).drewN n) := (gate_below W _).trans ((drewN_below _ n).mono (by simp))
  have hb : Below W.heap.size W (((W.alloc (.cells z tz)).drewN n).alloc (.cells g tg)) := hb0.alloc (by rw [e1]; omega) _
  exact ⟨hb.trans (h.mono hb.size), (h.block _ (lt_of_block z0)).trans z0, (h.block _ (lt_of_block z1)).trans z1⟩

set_option maxHeartbeats 2000000 in
theorem gated_any (w : Nat) (hw : w < 18446744073709551616) (W : World) :
    Calls Try.prog 17 #[.int .u64 w] W fun e W' => GateGives W W' e w := by
  have P1 := Lib.hid (part62_64 w hw)
  have P2 := Lib.hid (part56_62 w hw)
  have P3 := Lib.hid (part0_56 w hw)
  have b1 : w / 4611686018427387904 < 4 := by omega
  have b2 : w % 4611686018427387904 / 72057594037927936 < 64 := by omega
  have b3 : w % 72057594037927936 < 72057594037927936 := by omega
  have hS : gatedS w = if gatedOk w = true then w / 4611686018427387904 else 0 := rfl
  have hT : gatedT w = if gatedOk w = true then w % 4611686018427387904 / 72057594037927936 else 0 := rfl
  have hW : gatedW w = if gatedOk w = true then w % 72057594037927936 else 0 := rfl
  have hO : gatedOk w = mayG (w / 4611686018427387904 : Nat) (w % 4611686018427387904 / 72057594037927936 : Nat) (w % 72057594037927936) := rfl
  generalize w % 4611686018427387904 / 72057594037927936 = t at *
  generalize w / 4611686018427387904 = s at *
  generalize w % 72057594037927936 = r at *
  have hM := isGate_any (s : Nat) (t : Nat) r (by omega)
  rw [← hO] at hM
  have HM := Lib.hid hM
  clear hM hO hw
  go_enter Try.func17, Try.ntmps17
  go_wp2_with fail
  refine (P1.out _).mono ?_
  rintro e w1 ⟨rfl, n1, hn1⟩
  subst hn1
  go_wp2_with fail
  refine (P2.out _).mono ?_
  rintro e w1 ⟨rfl, n2, hn2⟩
  subst hn2
  go_wp2_with fail
  refine (P3.out _).mono ?_
  rintro e w1 ⟨rfl, n3, hn3⟩
  subst hn3
  go_wp2_with fail
  refine (HM.out _).mono ?_
  rintro e w1 ⟨rfl, hb1⟩
  obtain ⟨h, z0, z1⟩ := two_gates W (n1 + n2 + n3) _ _ _ _ w1 hb1
  clear hb1
  have H := Lib.hid h
  clear h
  have a0 : w1.cell? ⟨W.heap.size, 0, none⟩ = some (.int .i64 0) := by simp [World.cell?, z0]
  have a1 : w1.cell? ⟨W.heap.size, 1, none⟩ = some (.int .i64 0) := by simp [World.cell?, z0]
  have a2 : w1.cell? ⟨W.heap.size, 2, none⟩ = some (.int .u64 0) := by simp [World.cell?, z0]
  have f0 : w1.frozen? ⟨W.heap.size, 0, none⟩ = false := by simp [World.frozen?, z0]
  have f1 : w1.frozen? ⟨W.heap.size, 1, none⟩ = false := by simp [World.frozen?, z0]
  have f2 : w1.frozen? ⟨W.heap.size, 2, none⟩ = false := by simp [World.frozen?, z0]
  have g0 : w1.cell? ⟨W.heap.size + 1, 0, none⟩ = some (.int .i64 (s : Nat)) := by simp [World.cell?, z1]
  have g1 : w1.cell? ⟨W.heap.size + 1, 1, none⟩ = some (.int .i64 (t : Nat)) := by simp [World.cell?, z1]
  have g2 : w1.cell? ⟨W.heap.size + 1, 2, none⟩ = some (.int .u64 (r : Nat)) := by simp [World.cell?, z1]
  clear z0 z1
  have HOS : Hid (gatedOk w = true → gatedS w = s ∧ gatedT w = t ∧ gatedW w = r) := Lib.hid (fun h => by rw [hS, hT, hW, if_pos h, if_pos h, if_pos h]; exact ⟨rfl, rfl, rfl⟩)
  have HON : Hid (gatedOk w = false → gatedS w = 0 ∧ gatedT w = 0 ∧ gatedW w = 0) := Lib.hid (fun h => by rw [hS, hT, hW, h]; exact ⟨rfl, rfl, rfl⟩)
  clear hS hT hW
  cases hg : gatedOk w with
  | false =>
    have HR := Lib.hid (HON.out hg)
    have HG := Lib.hid hg
    clear hg
    go_wp2
    refine bodyPost_ret (v := .tuple #[.agg #[.int .i64 0, .int .i64 0, .int .u64 0], .bool false]) (by simp [results, Try.results17, go_sem, *]) rfl ⟨by rw [HR.out.1, HR.out.2.1, HR.out.2.2, HG.out]; rfl, ?_⟩
    exact ((H.out.setCell (by simp) _).setCell (by simp) _).setCell (by simp) _
  | true =>
    have HR := Lib.hid (HOS.out hg)
    have HG := Lib.hid hg
    clear hg
    go_wp2
    refine bodyPost_ret (v := .tuple #[.agg #[.int .i64 (s : Nat), .int .i64 (t : Nat), .int .u64 (r : Nat)], .bool true]) (by simp [results, Try.results17, go_sem, *]) rfl ⟨by rw [HR.out.1, HR.out.2.1, HR.out.2.2, HG.out], ?_⟩
    exact ((H.out.setCell (by simp) _).setCell (by simp) _).setCell (by simp) _
end Go.Proofs.Ytjkfecfldnhfiaa
