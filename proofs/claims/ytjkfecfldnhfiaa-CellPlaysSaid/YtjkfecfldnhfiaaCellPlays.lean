/- The law CellPlays, walked: whatever is stored, and written by versions, cells tell and have what the document says. Condition: the list's cells are there. -/
import Derived.Test.YtjkfecfldnhfiaaCellOnce
namespace Go.Proofs.Ytjkfecfldnhfiaa
open Go.RowKit

/-- The cells, and the document's row of them, where some acts are done. -/
structure Play (w0 wr : World) (b g : Nat) (v : Value) (l : List (Nat × Nat)) (n : Nat) : Prop where
  mine : Mine w0 wr b g l
  own : OwnC wr w0.heap.size v l
  len : l.length = n

section
variable {w0 wr w2 w3 : World} {b g n : Nat} {v v3 : Value} {l l' : List (Nat × Nat)}
theorem Play.on (h : Play w0 wr b g v l n) (hb : Below wr.heap.size wr w2) : Play w0 w2 b g v l n := ⟨h.mine.on hb, h.own.below hb, h.len⟩
theorem Play.ownW (h : Play w0 wr b g v l n) (hw : Wrote wr w2 b g l') : OwnC w2 w0.heap.size v l := h.own.keep hw.keep h.mine.cells.row (by decide)
theorem Play.put (h : Play w0 wr b g v l n) (hw : Wrote wr w2 b g l') (hl : l'.length = n) (hO : OwnC w3 w2.heap.size v3 l') (hb : Below w2.heap.size w2 w3) : Play w0 w3 b g v3 l' n :=
  ⟨(h.mine.wrote hw).on hb, hO.base (h.mine.wrote hw).below.size, hl⟩
theorem Play.cloned {b1 g1 : Nat} {e : Ending} (h : Play w0 wr b g v l n) (hc : CellsAt w2 b1 g1 l) (hb1 : wr.heap.size ≤ b1) (hg1 : wr.heap.size ≤ g1) (hb : Below wr.heap.size wr w2) (_he : e = e) : Play w0 w2 b1 g1 v l n :=
  ⟨⟨hc, ⟨Nat.le_trans h.mine.below.size hb1, Nat.le_trans h.mine.below.size hg1⟩, h.mine.below.trans (hb.mono h.mine.below.size)⟩, h.own.below hb, h.len⟩
theorem Play.other {b1 g1 : Nat} (h : Play w0 wr b1 g1 v l n) (hc : CellsAt wr b g l) (hne : g ≠ g1) (hg : w0.heap.size ≤ g) (hw : Wrote wr w2 b g l') : Play w0 w2 b1 g1 v l n :=
  ⟨⟨⟨h.mine.cells.blk.keep hw.keep (fun e => hc.row.ne_ h.mine.cells.blk (by decide) e.symm), h.mine.cells.row.keep hw.keep (fun e => hne e.symm), h.mine.cells.len, h.mine.cells.fit⟩, h.mine.low, h.mine.below.trans (hw.keep.below h.mine.below.size (fun k hk => by omega))⟩,
    h.own.keep hw.keep hc.row (by decide), h.len⟩
theorem Play.open (h : Play w0 wr b g v l n) : ∃ ga ca, v = .slice (some ⟨ga, 0, none⟩) n ca ∧ n ≤ ca ∧ ca ≤ 9223372036854775807 ∧ ∀ j, j < n → wr.cell? ⟨ga, j * 2 + 1, none⟩ = some (.int .u64 (vr l j : Nat)) := by
  obtain ⟨ga, ca, rfl, h1, h2, h3, _⟩ := h.own.open
  have := h.len
  rw [this] at h1 h3
  exact ⟨ga, ca, by rw [this], h1, h2, fun j hj => (h3 j hj).2⟩
end

def actC (x : It) : Array Value := #[.int .i64 x.kind, .int .i64 x.at_, .int .u64 x.ver, .int .u64 x.word]

set_option maxHeartbeats 32000000 in
set_option maxRecDepth 100000 in
/-- Rounds of the play. -/
theorem plays_in (n : Nat) (hn : n ≤ 60) (ao : Option Addr) (len cap : Nat) (X : Nat → It) (w : World) (hx : Items w w.heap.size ao len X) (hok : ∀ i, i < len → (X i).ok) (hlen : len ≤ 100) :
    Calls Try.prog 6 #[.int .i64 n, .slice ao len cap] w fun e w' => e = .returned (.bool true) ∧ Below w.heap.size w w' := by
  have HX := Lib.hid hx
  have HK := Lib.hid hok
  have HL := Lib.hid (fun W => lives8_any W)
  have HN := Lib.hid (new_in n w (by omega))
  have hq1 : ¬ (100 : Int) < len := by omega
  have hq2 : ¬ (60 : Int) < n := by omega
  have hq3 : ¬ (n : Int) < 0 := by omega
  have hq4 : ¬ (65536 : Int) < n := by omega
  obtain ⟨i0, hi, hz0, hz1, hz2⟩ := info_parts infoCell
  have hmk := fun W => run_make_rowN (P := Try.prog) 45 50 i0 _ Try.underlying45 hi hz0 .i64 .i64 n n (Nat.le_refl _) (by rw [hz2]; omega) (by omega) W
  rw [hz1, made_arr] at hmk
  clear hx hok hi hz0 hz1 hz2
  go_enter Try.func6, Try.ntmps6
  go_wp2_with fail
  refine HN.out.mono ?_
  rintro e w1 ⟨b, g, rfl, hc, hb1, hg1, hbl⟩
  have HP0 : Hid (Play w (w1.alloc (.cells (cc (List.replicate n (0, 0))).toArray 50)) b g (.slice (some ⟨w1.heap.size, 0, none⟩) n n) (List.replicate n (0, 0)) n) := Lib.hid
    ⟨(show Mine w w1 b g _ from ⟨hc, ⟨hb1, hg1⟩, hbl⟩).on (one_alloc w1 _).2, ⟨w1.heap.size, n, _, by rw [List.length_replicate], hbl.size, Blk.new _ _ _, by simp, by omega, by simp [cc_len], by
      rw [List.length_replicate]
      exact List.take_of_length_le (by simp [cc_len])⟩, by simp⟩
  clear hc hb1 hg1 hbl
  go_wp2
  clear hmk
  go_loopw [5, 6, 59] (fun sc sv s wr => ∃ (i b g : Nat) (v : Value) (l : List (Nat × Nat)), s = .int .i64 i ∧ i ≤ len ∧ sc = .pointer (some ⟨b, 0, none⟩) ∧ sv = v ∧ Hid (Play w wr b g v l n)) (fun _ _ s _ => len - (intOf s).toNat)
  case atStart => exact ⟨0, b, g, _, _, rfl, Nat.zero_le _, rfl, rfl, HP0⟩
  case round =>
    clear HP0
    obtain ⟨i, b, g, v, l, rfl, hi, rfl, rfl, hP⟩ := hrel
    by_cases hlt : i < len
    · obtain ⟨b0, off, rfl, hbN, hc⟩ := (HX.out.keep hP.out.mine.below) i hlt
      have hk := HK.out i hlt
      generalize X i = x at *
      obtain ⟨kind, at_, ver, word⟩ := x
      have HW := Lib.hid hk.2.2
      have HVB := Lib.hid hk.2.1
      have c0 := hc 0 _ rfl
      have c1 := hc 1 _ rfl
      have c2 := hc 2 _ rfl
      have c3 := hc 3 _ rfl
      rw [Nat.add_zero] at c0
      have P1 := Lib.hid (hP.out.on (one_alloc wr (.cells #[.int .i64 kind, .int .i64 at_, .int .u64 ver, .int .u64 word] 47)).2)
      have HA := Lib.hid (Blk.new wr 47 #[.int .i64 kind, .int .i64 at_, .int .u64 ver, .int .u64 word])
      have HNL := Lib.hid hP.out.len
      obtain ⟨ga, ca, rfl, hca1, hca2, hvs⟩ := P1.out.open
      have HVS := Lib.hid hvs
      have hlt' : (i : Int) < len := by omega
      clear hc hk hvs
      by_cases hin : 0 ≤ at_ ∧ at_ < n
      · obtain ⟨j, rfl⟩ : ∃ j : Nat, at_ = j := ⟨at_.toNat, by omega⟩
        have hj : j < n := by omega
        have hj' : (j : Int) < n := by omega
        have HJ : Hid (j < l.length) := Lib.hid (by rw [HNL.out]; exact hj)
        clear hin
        by_cases hk0 : kind = 0
        · subst hk0
          have HS := Lib.hid (store_in b g l j word HW.out _ P1.out.mine.cells HJ.out)
          go_wp2_with fail
          refine HS.out.mono ?_
          rintro e w2 ⟨rfl, hw2⟩
          have HA2 := Lib.hid (HA.out.keep hw2.keep (fun e => P1.out.mine.cells.row.ne_ HA.out (by decide) e.symm))
          have HWR := Lib.hid (write_any _ _ l j word w2 (P1.out.ownW hw2) HJ.out (by rw [HNL.out]; omega))
          have HW2 := Lib.hid hw2
          clear hw2
          have q1 : w2.cell? ⟨wr.heap.size, 1, none⟩ = some (.int .i64 j) := (HA2.out.cell 1).trans rfl
          have q2 : w2.cell? ⟨wr.heap.size, 2, none⟩ = some (.int .u64 ver) := (HA2.out.cell 2).trans rfl
          have q3 : w2.cell? ⟨wr.heap.size, 3, none⟩ = some (.int .u64 word) := (HA2.out.cell 3).trans rfl
          skip
          go_wp2_with fail
          refine HWR.out.mono ?_
          rintro e w3 ⟨v3, rfl, hO3, hb3⟩
          have P3 := Lib.hid (P1.out.put HW2.out (by rw [List.length_set]; exact HNL.out) hO3 hb3)
          have HA3 := Lib.hid (HA2.out.below hb3)
          obtain ⟨ga3, ca3, rfl, hca3, hcb3, _⟩ := P3.out.open
          clear hO3 hb3 q1 q2 q3
          have q1 : w3.cell? ⟨wr.heap.size, 1, none⟩ = some (.int .i64 j) := (HA3.out.cell 1).trans rfl
          have q2 : w3.cell? ⟨wr.heap.size, 2, none⟩ = some (.int .u64 ver) := (HA3.out.cell 2).trans rfl
          have q3 : w3.cell? ⟨wr.heap.size, 3, none⟩ = some (.int .u64 word) := (HA3.out.cell 3).trans rfl
          have HLD := Lib.hid (load_in _ _ _ j _ P3.out.mine.cells (by rw [P3.out.len]; exact hj))
          have HLK := Lib.hid (fun W (hd : Drew _ W) => like_any _ _ _ _ _ W (P3.out.mine.cells.drew hd) ((P3.out.on (hd.below _)).own))
          go_wp2_with fail
          refine HLD.out.mono ?_
          rintro e w8 ⟨rfl, hd⟩
          have HD := Lib.hid hd
          clear hd
          go_wp2_with fail
          refine (HLK.out _ HD.out).mono ?_
          rintro e w9 ⟨rfl, hb9⟩
          have P9 := Lib.hid ((P3.out.on (HD.out.below _)).on hb9)
          clear hb9
          go_wp2
          go_roundw
          case rel => exact ⟨i + 1, _, _, _, _, by go_num, by omega, rfl, rfl, P9⟩
          case measure => simp [intOf]; omega
        by_cases hk1 : kind = 1
        · subst hk1
          have hvr := HVS.out j hj
          by_cases hv : vr l j = ver
          · have he : ((vr l j : Int) == (ver : Int)) = true := by rw [hv]; simp
            have HS := Lib.hid (fun W (hd : Drew (wr.alloc (.cells #[.int .i64 1, .int .i64 j, .int .u64 ver, .int .u64 word] 47)) W) => cas_yes b g l j word HW.out W (P1.out.mine.cells.drew hd) HJ.out)
            have HWR0 := Lib.hid (fun W (hd : Drew (wr.alloc (.cells #[.int .i64 1, .int .i64 j, .int .u64 ver, .int .u64 word] 47)) W) w2 hw2 => write_any _ _ l j word w2 ((P1.out.on (hd.below _)).ownW (w2 := w2) (l' := l.set j (word, ver1 (vr l j))) hw2) HJ.out (by rw [HNL.out]; omega))
            have HSL : Hid ((l.set j (word, ver1 (vr l j))).length = n) := Lib.hid (by rw [List.length_set]; exact HNL.out)
            rw [hv] at hvr he HS HWR0 HSL
            clear hv
            generalize ver1 ver = ver' at *
            go_wp2
            go_quiet (fail)
            have P1d := Lib.hid (P1.out.on ((show Drew (wr.alloc (.cells #[.int .i64 1, .int .i64 j, .int .u64 ver, .int .u64 word] 47)) ((wr.alloc (.cells #[.int .i64 1, .int .i64 j, .int .u64 ver, .int .u64 word] 47)).drewN nq) from ⟨nq, rfl⟩).below _))
            have HAd : Hid (Blk ((wr.alloc (.cells #[.int .i64 1, .int .i64 j, .int .u64 ver, .int .u64 word] 47)).drewN nq) wr.heap.size 47 #[.int .i64 1, .int .i64 j, .int .u64 ver, .int .u64 word]) := Lib.hid HA.out
            go_wp2_with fail
            refine (HS.out _ ⟨nq, rfl⟩).mono ?_
            rintro e w2 ⟨rfl, hw2⟩
            have HA2 := Lib.hid (HAd.out.keep hw2.keep (fun e => P1d.out.mine.cells.row.ne_ HAd.out (by decide) e.symm))
            have HWR := Lib.hid (HWR0.out _ ⟨nq, rfl⟩ w2 hw2)
            have HW2 := Lib.hid hw2
            clear hw2
            have q1 : w2.cell? ⟨wr.heap.size, 1, none⟩ = some (.int .i64 j) := (HA2.out.cell 1).trans rfl
            have q2 : w2.cell? ⟨wr.heap.size, 2, none⟩ = some (.int .u64 ver) := (HA2.out.cell 2).trans rfl
            have q3 : w2.cell? ⟨wr.heap.size, 3, none⟩ = some (.int .u64 word) := (HA2.out.cell 3).trans rfl
            go_wp2_with fail
            refine HWR.out.mono ?_
            rintro e w3 ⟨v3, rfl, hO3, hb3⟩
            have P3 := Lib.hid (P1d.out.put HW2.out HSL.out hO3 hb3)
            have HA3 := Lib.hid (HA2.out.below hb3)
            obtain ⟨ga3, ca3, rfl, hca3, hcb3, _⟩ := P3.out.open
            clear hO3 hb3 q1 q2 q3
            have q1 : w3.cell? ⟨wr.heap.size, 1, none⟩ = some (.int .i64 j) := (HA3.out.cell 1).trans rfl
            have q2 : w3.cell? ⟨wr.heap.size, 2, none⟩ = some (.int .u64 ver) := (HA3.out.cell 2).trans rfl
            have q3 : w3.cell? ⟨wr.heap.size, 3, none⟩ = some (.int .u64 word) := (HA3.out.cell 3).trans rfl
            have HLD := Lib.hid (load_in _ _ _ j _ P3.out.mine.cells (by rw [P3.out.len]; exact hj))
            have HLK := Lib.hid (fun W (hd : Drew _ W) => like_any _ _ _ _ _ W (P3.out.mine.cells.drew hd) ((P3.out.on (hd.below _)).own))
            go_wp2_with fail
            refine HLD.out.mono ?_
            rintro e w8 ⟨rfl, hd⟩
            have HD := Lib.hid hd
            clear hd
            go_wp2_with fail
            refine (HLK.out _ HD.out).mono ?_
            rintro e w9 ⟨rfl, hb9⟩
            have P9 := Lib.hid ((P3.out.on (HD.out.below _)).on hb9)
            clear hb9
            go_wp2
            go_roundw
            case rel => exact ⟨i + 1, _, _, _, _, by go_num, by omega, rfl, rfl, P9⟩
            case measure => simp [intOf]; omega
          · have he : ((vr l j : Int) == (ver : Int)) = false := by simpa using fun e => hv (by omega)
            have HS := Lib.hid (fun W (hd : Drew (wr.alloc (.cells #[.int .i64 1, .int .i64 j, .int .u64 ver, .int .u64 word] 47)) W) => cas_no b g l j ver word W (P1.out.mine.cells.drew hd) HJ.out hv)
            clear hv
            go_wp2
            go_quiet (fail)
            have P1d := Lib.hid (P1.out.on ((show Drew (wr.alloc (.cells #[.int .i64 1, .int .i64 j, .int .u64 ver, .int .u64 word] 47)) ((wr.alloc (.cells #[.int .i64 1, .int .i64 j, .int .u64 ver, .int .u64 word] 47)).drewN nq) from ⟨nq, rfl⟩).below _))
            go_wp2_with fail
            refine (HS.out _ ⟨nq, rfl⟩).mono ?_
            rintro e w2 ⟨rfl, rfl⟩
            have HLD := Lib.hid (load_in _ _ _ j _ P1d.out.mine.cells (by rw [P1d.out.len]; exact hj))
            have HLK := Lib.hid (fun W (hd : Drew _ W) => like_any _ _ _ _ _ W (P1d.out.mine.cells.drew hd) ((P1d.out.on (hd.below _)).own))
            go_wp2_with fail
            refine HLD.out.mono ?_
            rintro e w8 ⟨rfl, hd⟩
            have HD := Lib.hid hd
            clear hd
            go_wp2_with fail
            refine (HLK.out _ HD.out).mono ?_
            rintro e w9 ⟨rfl, hb9⟩
            have P9 := Lib.hid ((P1d.out.on (HD.out.below _)).on hb9)
            clear hb9
            go_wp2
            go_roundw
            case rel => exact ⟨i + 1, _, _, _, _, by go_num, by omega, rfl, rfl, P9⟩
            case measure => simp [intOf]; omega
        by_cases hk3 : kind = 3
        · subst hk3
          have HC := Lib.hid (clone_any b g l _ P1.out.mine.cells)
          go_wp2_with fail
          refine HC.out.mono ?_
          rintro e w2 ⟨b2, g2, rfl, hc2, hb2, hg2, hbl2⟩
          have P2 := Lib.hid (P1.out.cloned (e := .outgrown) hc2 hb2 hg2 hbl2 rfl)
          have HO2 := Lib.hid (P1.out.mine.cells.below hbl2)
          have HA2 := Lib.hid (HA.out.below hbl2)
          have HNE : Hid (g ≠ g2) := Lib.hid (by have := P1.out.mine.cells.row.lt; omega)
          clear hc2 hb2 hg2 hbl2
          have q1 : w2.cell? ⟨wr.heap.size, 1, none⟩ = some (.int .i64 j) := (HA2.out.cell 1).trans rfl
          have q2 : w2.cell? ⟨wr.heap.size, 2, none⟩ = some (.int .u64 ver) := (HA2.out.cell 2).trans rfl
          have q3 : w2.cell? ⟨wr.heap.size, 3, none⟩ = some (.int .u64 word) := (HA2.out.cell 3).trans rfl
          have HS := Lib.hid (store_in b g l j word HW.out _ HO2.out HJ.out)
          go_wp2_with fail
          refine HS.out.mono ?_
          rintro e w3 ⟨rfl, hw3⟩
          have P3 := Lib.hid (P2.out.other HO2.out HNE.out P1.out.mine.low.2 hw3)
          have HA3 := Lib.hid (HA2.out.keep hw3.keep (fun e => HO2.out.row.ne_ HA2.out (by decide) e.symm))
          clear hw3 q1 q2 q3
          have q1 : w3.cell? ⟨wr.heap.size, 1, none⟩ = some (.int .i64 j) := (HA3.out.cell 1).trans rfl
          have q2 : w3.cell? ⟨wr.heap.size, 2, none⟩ = some (.int .u64 ver) := (HA3.out.cell 2).trans rfl
          have q3 : w3.cell? ⟨wr.heap.size, 3, none⟩ = some (.int .u64 word) := (HA3.out.cell 3).trans rfl
          have HLD := Lib.hid (load_in _ _ _ j _ P3.out.mine.cells (by rw [P3.out.len]; exact hj))
          have HLK := Lib.hid (fun W (hd : Drew _ W) => like_any _ _ _ _ _ W (P3.out.mine.cells.drew hd) ((P3.out.on (hd.below _)).own))
          go_wp2_with fail
          refine HLD.out.mono ?_
          rintro e w8 ⟨rfl, hd⟩
          have HD := Lib.hid hd
          clear hd
          go_wp2_with fail
          refine (HLK.out _ HD.out).mono ?_
          rintro e w9 ⟨rfl, hb9⟩
          have P9 := Lib.hid ((P3.out.on (HD.out.below _)).on hb9)
          clear hb9
          go_wp2
          go_roundw
          case rel => exact ⟨i + 1, _, _, _, _, by go_num, by omega, rfl, rfl, P9⟩
          case measure => simp [intOf]; omega
        · have n0 : (kind == 0) = false := by simpa using hk0
          have n1 : (kind == 1) = false := by simpa using hk1
          have n3 : (kind == 3) = false := by simpa using hk3
          have HLD := Lib.hid (load_in _ _ _ j _ P1.out.mine.cells (by rw [P1.out.len]; exact hj))
          have HLK := Lib.hid (fun W (hd : Drew _ W) => like_any _ _ _ _ _ W (P1.out.mine.cells.drew hd) ((P1.out.on (hd.below _)).own))
          go_wp2_with fail
          refine HLD.out.mono ?_
          rintro e w8 ⟨rfl, hd⟩
          have HD := Lib.hid hd
          clear hd
          go_wp2_with fail
          refine (HLK.out _ HD.out).mono ?_
          rintro e w9 ⟨rfl, hb9⟩
          have P9 := Lib.hid ((P1.out.on (HD.out.below _)).on hb9)
          clear hb9
          go_wp2
          go_roundw
          case rel => exact ⟨i + 1, _, _, _, _, by go_num, by omega, rfl, rfl, P9⟩
          case measure => simp [intOf]; omega
      · have HOUT : Hid (¬ (0 ≤ at_ ∧ at_ < (l.length : Int))) := Lib.hid (by rw [HNL.out]; exact hin)
        have hd : (0 ≤ at_ ∧ decide (at_ < (n : Int)) = false) ∨ ¬ 0 ≤ at_ := by
          by_cases h0 : 0 ≤ at_
          · exact Or.inl ⟨h0, by simp; omega⟩
          · exact Or.inr h0
        clear hin
        rcases hd with ⟨h0, h1⟩ | h0
        · by_cases hk0 : kind = 0
          · subst hk0
            have HS := Lib.hid (store_out _ _ at_ word _ (cLen_any _ _ _ _ P1.out.mine.cells) HOUT.out)
            go_wp2_with fail
            refine HS.out.mono ?_
            rintro e w2 ⟨rfl, rfl⟩
            have HLD := Lib.hid (load_out _ _ at_ _ (cLen_any _ _ _ _ P1.out.mine.cells) HOUT.out)
            have HLK := Lib.hid (fun W (hd : Drew _ W) => like_any _ _ _ _ _ W (P1.out.mine.cells.drew hd) ((P1.out.on (hd.below _)).own))
            go_wp2_with fail
            refine HLD.out.mono ?_
            rintro e w8 ⟨rfl, rfl⟩
            go_wp2_with fail
            refine (HLK.out _ (Drew.refl _)).mono ?_
            rintro e w9 ⟨rfl, hb9⟩
            have P9 := Lib.hid (P1.out.on hb9)
            clear hb9
            go_wp2
            go_roundw
            case rel => exact ⟨i + 1, _, _, _, _, by go_num, by omega, rfl, rfl, P9⟩
            case measure => simp [intOf]; omega
          by_cases hk1 : kind = 1
          · subst hk1
            have HS := Lib.hid (fun W (hd : Drew (wr.alloc (.cells #[.int .i64 1, .int .i64 at_, .int .u64 ver, .int .u64 word] 47)) W) => cas_out _ _ at_ ver word W (cLen_any _ _ _ _ (P1.out.mine.cells.drew hd)) HOUT.out)
            go_wp2
            go_quiet (fail)
            have P1d := Lib.hid (P1.out.on ((show Drew (wr.alloc (.cells #[.int .i64 1, .int .i64 at_, .int .u64 ver, .int .u64 word] 47)) ((wr.alloc (.cells #[.int .i64 1, .int .i64 at_, .int .u64 ver, .int .u64 word] 47)).drewN nq) from ⟨nq, rfl⟩).below _))
            go_wp2_with fail
            refine (HS.out _ ⟨nq, rfl⟩).mono ?_
            rintro e w2 ⟨rfl, rfl⟩
            have HLD := Lib.hid (load_out _ _ at_ _ (cLen_any _ _ _ _ P1d.out.mine.cells) HOUT.out)
            have HLK := Lib.hid (fun W (hd : Drew _ W) => like_any _ _ _ _ _ W (P1d.out.mine.cells.drew hd) ((P1d.out.on (hd.below _)).own))
            go_wp2_with fail
            refine HLD.out.mono ?_
            rintro e w8 ⟨rfl, rfl⟩
            go_wp2_with fail
            refine (HLK.out _ (Drew.refl _)).mono ?_
            rintro e w9 ⟨rfl, hb9⟩
            have P9 := Lib.hid (P1d.out.on hb9)
            clear hb9
            go_wp2
            go_roundw
            case rel => exact ⟨i + 1, _, _, _, _, by go_num, by omega, rfl, rfl, P9⟩
            case measure => simp [intOf]; omega
          by_cases hk3 : kind = 3
          · subst hk3
            have HC := Lib.hid (clone_any b g l _ P1.out.mine.cells)
            go_wp2_with fail
            refine HC.out.mono ?_
            rintro e w2 ⟨b2, g2, rfl, hc2, hb2, hg2, hbl2⟩
            have P2 := Lib.hid (P1.out.cloned (e := .outgrown) hc2 hb2 hg2 hbl2 rfl)
            have HO2 := Lib.hid (P1.out.mine.cells.below hbl2)
            have HA2 := Lib.hid (HA.out.below hbl2)
            have HNE : Hid (g ≠ g2) := Lib.hid (by have := P1.out.mine.cells.row.lt; omega)
            clear hc2 hb2 hg2 hbl2
            have q1 : w2.cell? ⟨wr.heap.size, 1, none⟩ = some (.int .i64 at_) := (HA2.out.cell 1).trans rfl
            have q2 : w2.cell? ⟨wr.heap.size, 2, none⟩ = some (.int .u64 ver) := (HA2.out.cell 2).trans rfl
            have q3 : w2.cell? ⟨wr.heap.size, 3, none⟩ = some (.int .u64 word) := (HA2.out.cell 3).trans rfl
            have HS := Lib.hid (store_out _ _ at_ word _ (cLen_any _ _ _ _ HO2.out) HOUT.out)
            go_wp2_with fail
            refine HS.out.mono ?_
            rintro e w3 ⟨rfl, rfl⟩
            have HLD := Lib.hid (load_out _ _ at_ _ (cLen_any _ _ _ _ P2.out.mine.cells) HOUT.out)
            have HLK := Lib.hid (fun W (hd : Drew _ W) => like_any _ _ _ _ _ W (P2.out.mine.cells.drew hd) ((P2.out.on (hd.below _)).own))
            go_wp2_with fail
            refine HLD.out.mono ?_
            rintro e w8 ⟨rfl, rfl⟩
            go_wp2_with fail
            refine (HLK.out _ (Drew.refl _)).mono ?_
            rintro e w9 ⟨rfl, hb9⟩
            have P9 := Lib.hid (P2.out.on hb9)
            clear hb9
            go_wp2
            go_roundw
            case rel => exact ⟨i + 1, _, _, _, _, by go_num, by omega, rfl, rfl, P9⟩
            case measure => simp [intOf]; omega
          · have n0 : (kind == 0) = false := by simpa using hk0
            have n1 : (kind == 1) = false := by simpa using hk1
            have n3 : (kind == 3) = false := by simpa using hk3
            have HLD := Lib.hid (load_out _ _ at_ _ (cLen_any _ _ _ _ P1.out.mine.cells) HOUT.out)
            have HLK := Lib.hid (fun W (hd : Drew _ W) => like_any _ _ _ _ _ W (P1.out.mine.cells.drew hd) ((P1.out.on (hd.below _)).own))
            go_wp2_with fail
            refine HLD.out.mono ?_
            rintro e w8 ⟨rfl, rfl⟩
            go_wp2_with fail
            refine (HLK.out _ (Drew.refl _)).mono ?_
            rintro e w9 ⟨rfl, hb9⟩
            have P9 := Lib.hid (P1.out.on hb9)
            clear hb9
            go_wp2
            go_roundw
            case rel => exact ⟨i + 1, _, _, _, _, by go_num, by omega, rfl, rfl, P9⟩
            case measure => simp [intOf]; omega
        · by_cases hk0 : kind = 0
          · subst hk0
            have HS := Lib.hid (store_out _ _ at_ word _ (cLen_any _ _ _ _ P1.out.mine.cells) HOUT.out)
            go_wp2_with fail
            refine HS.out.mono ?_
            rintro e w2 ⟨rfl, rfl⟩
            have HLD := Lib.hid (load_out _ _ at_ _ (cLen_any _ _ _ _ P1.out.mine.cells) HOUT.out)
            have HLK := Lib.hid (fun W (hd : Drew _ W) => like_any _ _ _ _ _ W (P1.out.mine.cells.drew hd) ((P1.out.on (hd.below _)).own))
            go_wp2_with fail
            refine HLD.out.mono ?_
            rintro e w8 ⟨rfl, rfl⟩
            go_wp2_with fail
            refine (HLK.out _ (Drew.refl _)).mono ?_
            rintro e w9 ⟨rfl, hb9⟩
            have P9 := Lib.hid (P1.out.on hb9)
            clear hb9
            go_wp2
            go_roundw
            case rel => exact ⟨i + 1, _, _, _, _, by go_num, by omega, rfl, rfl, P9⟩
            case measure => simp [intOf]; omega
          by_cases hk1 : kind = 1
          · subst hk1
            have HS := Lib.hid (fun W (hd : Drew (wr.alloc (.cells #[.int .i64 1, .int .i64 at_, .int .u64 ver, .int .u64 word] 47)) W) => cas_out _ _ at_ ver word W (cLen_any _ _ _ _ (P1.out.mine.cells.drew hd)) HOUT.out)
            go_wp2
            go_quiet (fail)
            have P1d := Lib.hid (P1.out.on ((show Drew (wr.alloc (.cells #[.int .i64 1, .int .i64 at_, .int .u64 ver, .int .u64 word] 47)) ((wr.alloc (.cells #[.int .i64 1, .int .i64 at_, .int .u64 ver, .int .u64 word] 47)).drewN nq) from ⟨nq, rfl⟩).below _))
            go_wp2_with fail
            refine (HS.out _ ⟨nq, rfl⟩).mono ?_
            rintro e w2 ⟨rfl, rfl⟩
            have HLD := Lib.hid (load_out _ _ at_ _ (cLen_any _ _ _ _ P1d.out.mine.cells) HOUT.out)
            have HLK := Lib.hid (fun W (hd : Drew _ W) => like_any _ _ _ _ _ W (P1d.out.mine.cells.drew hd) ((P1d.out.on (hd.below _)).own))
            go_wp2_with fail
            refine HLD.out.mono ?_
            rintro e w8 ⟨rfl, rfl⟩
            go_wp2_with fail
            refine (HLK.out _ (Drew.refl _)).mono ?_
            rintro e w9 ⟨rfl, hb9⟩
            have P9 := Lib.hid (P1d.out.on hb9)
            clear hb9
            go_wp2
            go_roundw
            case rel => exact ⟨i + 1, _, _, _, _, by go_num, by omega, rfl, rfl, P9⟩
            case measure => simp [intOf]; omega
          by_cases hk3 : kind = 3
          · subst hk3
            have HC := Lib.hid (clone_any b g l _ P1.out.mine.cells)
            go_wp2_with fail
            refine HC.out.mono ?_
            rintro e w2 ⟨b2, g2, rfl, hc2, hb2, hg2, hbl2⟩
            have P2 := Lib.hid (P1.out.cloned (e := .outgrown) hc2 hb2 hg2 hbl2 rfl)
            have HO2 := Lib.hid (P1.out.mine.cells.below hbl2)
            have HA2 := Lib.hid (HA.out.below hbl2)
            have HNE : Hid (g ≠ g2) := Lib.hid (by have := P1.out.mine.cells.row.lt; omega)
            clear hc2 hb2 hg2 hbl2
            have q1 : w2.cell? ⟨wr.heap.size, 1, none⟩ = some (.int .i64 at_) := (HA2.out.cell 1).trans rfl
            have q2 : w2.cell? ⟨wr.heap.size, 2, none⟩ = some (.int .u64 ver) := (HA2.out.cell 2).trans rfl
            have q3 : w2.cell? ⟨wr.heap.size, 3, none⟩ = some (.int .u64 word) := (HA2.out.cell 3).trans rfl
            have HS := Lib.hid (store_out _ _ at_ word _ (cLen_any _ _ _ _ HO2.out) HOUT.out)
            go_wp2_with fail
            refine HS.out.mono ?_
            rintro e w3 ⟨rfl, rfl⟩
            have HLD := Lib.hid (load_out _ _ at_ _ (cLen_any _ _ _ _ P2.out.mine.cells) HOUT.out)
            have HLK := Lib.hid (fun W (hd : Drew _ W) => like_any _ _ _ _ _ W (P2.out.mine.cells.drew hd) ((P2.out.on (hd.below _)).own))
            go_wp2_with fail
            refine HLD.out.mono ?_
            rintro e w8 ⟨rfl, rfl⟩
            go_wp2_with fail
            refine (HLK.out _ (Drew.refl _)).mono ?_
            rintro e w9 ⟨rfl, hb9⟩
            have P9 := Lib.hid (P2.out.on hb9)
            clear hb9
            go_wp2
            go_roundw
            case rel => exact ⟨i + 1, _, _, _, _, by go_num, by omega, rfl, rfl, P9⟩
            case measure => simp [intOf]; omega
          · have n0 : (kind == 0) = false := by simpa using hk0
            have n1 : (kind == 1) = false := by simpa using hk1
            have n3 : (kind == 3) = false := by simpa using hk3
            have HLD := Lib.hid (load_out _ _ at_ _ (cLen_any _ _ _ _ P1.out.mine.cells) HOUT.out)
            have HLK := Lib.hid (fun W (hd : Drew _ W) => like_any _ _ _ _ _ W (P1.out.mine.cells.drew hd) ((P1.out.on (hd.below _)).own))
            go_wp2_with fail
            refine HLD.out.mono ?_
            rintro e w8 ⟨rfl, rfl⟩
            go_wp2_with fail
            refine (HLK.out _ (Drew.refl _)).mono ?_
            rintro e w9 ⟨rfl, hb9⟩
            have P9 := Lib.hid (P1.out.on hb9)
            clear hb9
            go_wp2
            go_roundw
            case rel => exact ⟨i + 1, _, _, _, _, by go_num, by omega, rfl, rfl, P9⟩
            case measure => simp [intOf]; omega
    · obtain rfl : i = len := by omega
      have HLV := Lib.hid (HL.out wr)
      go_wp2_with fail
      refine HLV.out.mono ?_
      rintro e w3 ⟨rfl, hb3⟩
      go_wp2
      go_ret
      exact ⟨rfl, hP.out.mine.below.trans (hb3.mono hP.out.mine.below.size)⟩
end Go.Proofs.Ytjkfecfldnhfiaa
