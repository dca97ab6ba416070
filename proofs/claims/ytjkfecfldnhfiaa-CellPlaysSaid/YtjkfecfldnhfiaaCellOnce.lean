/- The law CellOnce, walked: of several that write by one version just one does, the first. Condition: the lists' cells are there. -/
import Derived.Test.YtjkfecfldnhfiaaCellLives
import Derived.Test.YtjkfecfldnhfiaaCellActs
namespace Go.Proofs.Ytjkfecfldnhfiaa
open Go.RowKit

/-- Cells of one's own, behind some writes. -/
structure Mine (w0 wr : World) (b g : Nat) (l : List (Nat × Nat)) : Prop where
  cells : CellsAt wr b g l
  low : w0.heap.size ≤ b ∧ w0.heap.size ≤ g
  below : Below w0.heap.size w0 wr

section
variable {w0 wr w' : World} {b g : Nat} {l : List (Nat × Nat)}
theorem Mine.on (h : Mine w0 wr b g l) (hb : Below wr.heap.size wr w') : Mine w0 w' b g l := ⟨h.cells.below hb, h.low, h.below.trans (hb.mono h.below.size)⟩
theorem Mine.drew (h : Mine w0 wr b g l) (hd : Drew wr w') : Mine w0 w' b g l := h.on (hd.below _)
theorem Mine.wrote {l' : List (Nat × Nat)} (h : Mine w0 wr b g l) (hw : Wrote wr w' b g l') : Mine w0 w' b g l' := ⟨hw.cells, h.low, h.below.trans (hw.keep.below h.below.size (fun k hk => by have := h.low.2; omega))⟩
end

/-- Store, wherever. -/
theorem store_mine (w0 : World) (b g : Nat) (l : List (Nat × Nat)) (i : Int) (word : Nat) (hw : word < 18446744073709551616) (w : World) (h : Mine w0 w b g l) :
    Calls Try.prog 24 #[.pointer (some ⟨b, 0, none⟩), .int .i64 i, .int .u64 word] w fun e w' => ∃ t l', e = .returned (.bool t) ∧ Mine w0 w' b g l' ∧ l'.length = l.length := by
  by_cases hi : 0 ≤ i ∧ i < l.length
  · obtain ⟨j, rfl⟩ : ∃ j : Nat, i = j := ⟨i.toNat, by omega⟩
    refine (store_in b g l j word hw w h.cells (by omega)).mono ?_
    rintro e w' ⟨rfl, hwr⟩
    exact ⟨_, _, rfl, h.wrote hwr, List.length_set⟩
  · refine (store_out _ l.length i word w (cLen_any b g l w h.cells) hi).mono ?_
    rintro e w' ⟨rfl, rfl⟩
    exact ⟨_, _, rfl, h, rfl⟩

/-- The three cells behind k writes by the second one's version. -/
def onceL (l : List (Nat × Nat)) (y : Nat) (k : Nat) : List (Nat × Nat) := if k = 0 then l else l.set 1 (y, ver1 (vr l 1))
theorem onceL_len (l : List (Nat × Nat)) (y k : Nat) : (onceL l y k).length = l.length := by unfold onceL; split <;> simp
theorem onceL_vr {l : List (Nat × Nat)} (h : l.length = 3) (y k : Nat) (hk : k ≠ 0) : wd (onceL l y k) 1 = y ∧ vr (onceL l y k) 1 = ver1 (vr l 1) := by
  unfold onceL
  rw [if_neg hk]
  unfold wd vr
  rw [List.getD_eq_getElem?_getD, List.getElem?_set_self (by omega)]
  exact ⟨rfl, rfl⟩

/-- The write number k by that version. -/
theorem cas_once (w0 : World) (b g : Nat) (l : List (Nat × Nat)) (k z y : Nat) (hz : k = 0 → z = y) (hzk : z < 18446744073709551616) (w : World) (h : Mine w0 w b g (onceL l y k)) (hl : l.length = 3) :
    Calls Try.prog 27 #[.pointer (some ⟨b, 0, none⟩), .int .i64 1, .int .u64 (vr l 1 : Nat), .int .u64 z] w fun e w' => e = .returned (.bool (decide (k = 0))) ∧ Mine w0 w' b g (onceL l y (k + 1)) := by
  by_cases hk : k = 0
  · subst hk
    rw [hz rfl] at hzk ⊢
    have h' : Mine w0 w b g l := h
    refine (cas_yes b g l 1 y hzk w h'.cells (by omega)).mono ?_
    rintro e w' ⟨rfl, hw⟩
    exact ⟨rfl, h'.wrote hw⟩
  · refine (cas_no b g (onceL l y k) 1 (vr l 1) z w h.cells (by rw [onceL_len]; omega) ?_).mono ?_
    · rw [(onceL_vr hl y k hk).2]
      unfold ver1; omega
    rintro e w' ⟨rfl, rfl⟩
    have e : onceL l y (k + 1) = onceL l y k := by unfold onceL; rw [if_neg hk, if_neg (by omega)]
    exact ⟨by simp [hk], by rw [e]; exact h⟩

set_option maxHeartbeats 8000000 in
set_option maxRecDepth 100000 in
theorem once_any (ao bo : Option Addr) (len cap n cap2 : Nat) (X : Nat → It) (Y : Nat → Nat) (w : World) (hx : Items w w.heap.size ao len X) (hok : ∀ i, i < len → (X i).ok) (hlen : len ≤ 9223372036854775807)
    (hy : Words w w.heap.size bo n Y) (hyk : ∀ i, i < n → Y i < 18446744073709551616) (hn : n ≤ 9223372036854775807) :
    Calls Try.prog 7 #[.slice ao len cap, .slice bo n cap2] w fun e w' => e = .returned (.bool true) ∧ Below w.heap.size w w' := by
  have HX := Lib.hid hx
  have HK := Lib.hid hok
  have HY := Lib.hid hy
  have HYK := Lib.hid hyk
  have HL := Lib.hid (fun W => lives8_any W)
  clear hx hok hy hyk
  by_cases hbig : 60 < len ∨ 60 < n
  · have hc : (60 : Int) < len ∨ (¬ (60 : Int) < len ∧ (60 : Int) < n) := by omega
    clear hbig
    rcases hc with g1 | ⟨g1, g2⟩
    all_goals
      go_enter Try.func7, Try.ntmps7
      go_wp2_with fail
      refine (HL.out _).mono ?_
      rintro e w1 ⟨rfl, hb⟩
      have HB := Lib.hid hb
      clear hb
      go_wp2
      go_ret
      exact ⟨rfl, HB.out⟩
  · have g1 : ¬ (60 : Int) < len := by omega
    have g2 : ¬ (60 : Int) < n := by omega
    clear hbig
    have HN := Lib.hid (new_in 3 w (by omega))
    go_enter Try.func7, Try.ntmps7
    go_wp2_with fail
    refine HN.out.mono ?_
    rintro e w1 ⟨b, g, rfl, hc, hb1, hg1, hbl⟩
    have HM := Lib.hid (show Mine w w1 b g (List.replicate 3 (0, 0)) from ⟨hc, ⟨hb1, hg1⟩, hbl⟩)
    clear hc hb1 hg1 hbl
    go_wp2
    go_loopw [28] (fun s wr => ∃ i : Nat, s = .int .i64 i ∧ i ≤ len ∧ Hid (∃ l, Mine w wr b g l ∧ l.length = 3)) (fun s _ => len - (intOf s).toNat)
    case atStart => exact ⟨0, rfl, Nat.zero_le _, Lib.hid ⟨_, HM.out, rfl⟩⟩
    case round =>
      obtain ⟨i, rfl, hi, hm⟩ := hrel
      obtain ⟨l, hm, hl3⟩ := hm.out
      have HM := Lib.hid hm
      have HL3 := Lib.hid hl3
      clear hm hl3
      by_cases hlt : i < len
      · obtain ⟨b0, off, rfl, hbN, hc⟩ := (HX.out.keep HM.out.below) i hlt
        have hk := HK.out i hlt
        generalize X i = x at *
        obtain ⟨kind, at_, ver, word⟩ := x
        have c0 := hc 0 _ rfl
        have c1 := hc 1 _ rfl
        have c2 := hc 2 _ rfl
        have c3 := hc 3 _ rfl
        rw [Nat.add_zero] at c0
        have HM2 := Lib.hid (HM.out.on (one_alloc wr (.cells #[.int .i64 kind, .int .i64 at_, .int .u64 ver, .int .u64 word] 47)).2)
        have HS := Lib.hid (store_mine w b g l at_ word hk.2.2 _ HM2.out)
        clear hc hk
        go_wp2_with fail
        refine HS.out.mono ?_
        rintro e w2 ⟨t, l', rfl, hm', hl'⟩
        have HM3 := Lib.hid (show ∃ l, Mine w w2 b g l ∧ l.length = 3 from ⟨l', hm', hl'.trans HL3.out⟩)
        clear hm' hl'
        go_wp2
        go_roundw
        case rel => exact ⟨i + 1, by go_num, by omega, HM3⟩
        case measure => simp [intOf]; omega
      · obtain rfl : i = len := by omega
        have HLD := Lib.hid (load_in b g l 1 wr HM.out.cells (by rw [HL3.out]; omega))
        go_wp2_with fail
        refine HLD.out.mono ?_
        rintro e w2 ⟨rfl, hd⟩
        have HM2 := Lib.hid (HM.out.drew hd)
        clear hd
        have HM3 := Lib.hid (show Mine w w2 b g (onceL l (Y 0) 0) from HM2.out)
        have hvw : IntKind.u64.wrap ((vr l 1 : Int) + 1) = (ver1 (vr l 1) : Nat) := by
          unfold ver1
          rw [IntKind.wrap_u64]; omega
        have HCAS := Lib.hid (fun W k (hk : k < n) (hm : Mine w W b g (onceL l (Y 0) k)) => cas_once w b g l k (Y k) (Y 0) (fun e => by rw [e]) (HYK.out k hk) W hm HL3.out)
        have HLL := Lib.hid (fun W (hm : Mine w W b g (onceL l (Y 0) n)) => load_in b g (onceL l (Y 0) n) 1 W hm.cells (by rw [onceL_len, HL3.out]; omega))
        have HVR := Lib.hid (fun k hk => onceL_vr HL3.out (Y 0) k hk)
        have HZ := Lib.hid (show onceL l (Y 0) 0 = l from rfl)
        clear HLD
        generalize hver : vr l 1 = ver at *
        generalize hword : wd l 1 = word at *
        have HVD := Lib.hid hver
        have HWD := Lib.hid hword
        clear hver hword
        generalize ver1 ver = ver' at *
        go_wp2
        go_loopw [47] (fun s wr => ∃ k : Nat, s = .int .i64 k ∧ k ≤ n ∧ Hid (Mine w wr b g (onceL l (Y 0) k))) (fun s _ => n - (intOf s).toNat)
        case atStart => exact ⟨0, rfl, Nat.zero_le _, HM3⟩
        case round =>
          obtain ⟨k, rfl, hk, hm⟩ := hrel
          by_cases hlt2 : k < n
          · obtain ⟨b1, off1, rfl, hbN1, hc1⟩ := (HY.out.keep hm.out.below) k hlt2
            have HC := Lib.hid (HCAS.out wr k hlt2 hm.out)
            have hlt2' : (k : Int) < n := by omega
            clear hm
            by_cases h0 : k = 0
            · subst h0
              rw [Nat.add_zero] at hc1
              generalize Y 0 = y0 at *
              go_wp2_with fail
              refine HC.out.mono ?_
              rintro e w3 ⟨rfl, hm3⟩
              have HM4 := Lib.hid hm3
              clear hm3
              go_wp2
              go_roundw
              case rel => exact ⟨0 + 1, by go_num, by omega, HM4⟩
              case measure => simp [intOf]; omega
            · have hd : ((k : Int) == 0) = false := by simpa using h0
              have hd2 : (decide (k = 0) : Bool) = false := by simpa using h0
              rw [hd2] at HC
              generalize Y k = yk at *
              clear hd2
              go_wp2_with fail
              refine HC.out.mono ?_
              rintro e w3 ⟨rfl, hm3⟩
              have HM4 := Lib.hid hm3
              clear hm3
              go_wp2
              go_roundw
              case rel => exact ⟨k + 1, by go_num, by omega, HM4⟩
              case measure => simp [intOf]; omega
          · obtain rfl : k = n := by omega
            have HC := Lib.hid (HLL.out wr hm.out)
            have HM5 := hm
            by_cases h0 : k = 0
            · subst h0
              rw [HZ.out, HWD.out, HVD.out] at HC
              have e1 : ((word : Int) == (word : Int)) = true := by simp
              have e2 : ((ver : Int) == (ver : Int)) = true := by simp
              go_wp2_with fail
              refine HC.out.mono ?_
              rintro e w3 ⟨rfl, hd⟩
              have HM6 := Lib.hid (HM5.out.drew hd)
              clear hd
              go_wp2_with fail
              refine (HL.out _).mono ?_
              rintro e w4 ⟨rfl, hb⟩
              have HB := Lib.hid (HM6.out.below.trans (hb.mono HM6.out.below.size))
              clear hb
              go_wp2
              go_ret
              exact ⟨rfl, HB.out⟩
            · have hvr := HVR.out k h0
              rw [hvr.1, hvr.2] at HC
              have hY := HY.out.keep hm.out.below
              have e0 : ((k : Int) == 0) = false := by simpa using h0
              have e1 : ((Y 0 : Int) == ((Y 0 : Nat) : Int)) = true := by simp
              have e2 : ((ver' : Int) == (ver' : Int)) = true := by simp
              have hp : (0 : Int) < k := by omega
              have hp2 : 0 < k := by omega
              clear hvr
              go_wp2_with fail
              refine HC.out.mono ?_
              rintro e w3 ⟨rfl, hd⟩
              have HM6 := Lib.hid (HM5.out.drew hd)
              obtain ⟨b1, off1, rfl, hbN1, hc1⟩ := (HY.out.keep HM6.out.below) 0 (by omega)
              rw [Nat.add_zero] at hc1
              clear hd hY
              generalize Y 0 = y0 at *
              go_wp2_with fail
              refine (HL.out _).mono ?_
              rintro e w4 ⟨rfl, hb⟩
              have HB := Lib.hid (HM6.out.below.trans (hb.mono HM6.out.below.size))
              clear hb
              go_wp2
              go_ret
              exact ⟨rfl, HB.out⟩
end Go.Proofs.Ytjkfecfldnhfiaa
