/- The law SipBack, walked: it returns true; nothing that was there has turned. Conditions: those of its list's reading. -/
import Derived.Test.YtajheohdhiojcaaSipBackMath
import Derived.Deep.RegionHeldLaw
namespace Go.Proofs.Ytajheohdhiojcaa
open Go.RowKit

theorem eye_lt {w : World} {eb : Nat} {bs : List UInt8} {f : Int} (h : Eye w eb bs f) : eb < w.heap.size := by obtain ⟨_, h, _⟩ := h; exact lt_of_block h

theorem ew_under {w w' : World} {B eb : Nat} (h : Ew eb w w') (hB : B ≤ eb) (hB2 : B ≤ w.heap.size) : Below B w w' := ⟨h.os, h.tape, h.output, h.size, fun k hk => h.block k (by omega) (by omega)⟩

theorem int_back (eb : Nat) (x : Int) (rest : List UInt8) (w : World) (h0 : -9223372036854775808 ≤ x) (h1 : x ≤ 9223372036854775807) (he : Eye w eb (Lib.uvarint (Lib.zigzag x) ++ rest) 0) :
    Calls Try.prog 21 #[.pointer (some ⟨eb, 0, none⟩)] w fun e w' => e = .returned (.int .i64 x) ∧ Took w w' eb rest 0 := by
  have h := eyeInt_any w eb _ he
  rw [read_int x rest h0 h1, unzig_zig] at h
  exact h

theorem truth_back (eb n : Nat) (rest : List UInt8) (w : World) (he : Eye w eb (Lib.uvarint (n % 2) ++ rest) 0) :
    Calls Try.prog 22 #[.pointer (some ⟨eb, 0, none⟩)] w fun e w' => e = .returned (.bool ((n : Int) % 2 == 1)) ∧ Took w w' eb rest 0 := by
  have h := eyeTruth_any w eb _ he
  rw [read_truth n rest] at h
  exact h

theorem text_back (eb : Nat) (s : ByteArray) (rest : List UInt8) (w : World) (hs : s.size ≤ 9223372036854775807) (he : Eye w eb (Lib.uvarint s.size ++ s.data.toList ++ rest) 0) :
    Calls Try.prog 23 #[.pointer (some ⟨eb, 0, none⟩), .int .i64 s.size] w fun e w' => e = .returned (.string s) ∧ Took w w' eb rest 0 :=
  (eyeText_any eb _ s.size w he (by omega) (by omega)).mono fun _ _ h => read_text (by omega) h

theorem num_back (eb n : Nat) (rest : List UInt8) (w : World) (hn : n < 18446744073709551616) (he : Eye w eb (Lib.uvarint n ++ rest) 0) :
    Calls Try.prog 24 #[.pointer (some ⟨eb, 0, none⟩), .int .u64 n] w fun e w' => e = .returned (.int .u64 n) ∧ Took w w' eb rest 0 := by
  have h := eyeNum_any eb n _ w he
  unfold NumDone at h
  rw [read_num n rest hn] at h
  exact h

theorem bytes_bound (x : It) (h : x.ok) (hs : x.text.size ≤ 300) : 1 ≤ x.bytes.length ∧ x.bytes.length ≤ 400 := itemBytes_length x h hs

set_option maxHeartbeats 8000000 in
set_option maxRecDepth 100000 in
theorem sipBack_any (ao : Option Addr) (len cap : Nat) (X : Nat → It) (w : World) (hx : Items w w.heap.size ao len X) (hok : ∀ i, i < len → (X i).ok) (hlen : len ≤ 9223372036854775807) :
    Calls Try.prog 4 #[.slice ao len cap] w fun e w' => e = .returned (.bool true) ∧ Below w.heap.size w w' := by
  have HX := Lib.hid hx
  have HK := Lib.hid hok
  have hli := light_any ao len cap X w hx hok hlen
  have HL := Lib.hid hli
  clear hx hok hli
  go_enter Try.func4, Try.ntmps4
  go_wp2_with fail
  refine HL.out.mono ?_
  rintro e w1 ⟨b, rfl, hb, hbel⟩
  cases b with
  | false =>
    clear hb
    go_wp2_with fail
    refine (lives01 _).mono ?_
    rintro e w2 ⟨rfl, hb2⟩
    go_wp2
    go_ret
    exact ⟨rfl, hbel.trans (hb2.mono hbel.size)⟩
  | true =>
    obtain ⟨hsz, h40⟩ := hb rfl
    have HS := Lib.hid hsz
    clear hsz hb
    have hp0 := pen_new w1
    obtain ⟨pb, hpb⟩ : ∃ pb, pb = w1.heap.size := ⟨_, rfl⟩
    have hst : Pen (w1.alloc (.cells #[.slice none 0 0] 27)) w.heap.size w1.heap.size (firsts X 0) := by
      obtain ⟨v, h1, h2, h3, h4⟩ := hp0
      exact ⟨v, h1, own_mono h2 hbel.size, h3, hbel.size⟩
    have hbs := hbel.size
    have hb0 : Below w.heap.size w (w1.alloc (.cells #[.slice none 0 0] 27)) := hbel.alloc hbs _
    have HST := Lib.hid (⟨hst, hb0⟩ : _ ∧ _)
    clear hst hp0 hb0
    go_wp2_with fail
    rw [← hpb] at HST ⊢
    have HPB := Lib.hid hpb
    clear hpb
    go_loopw [16] (fun vj wr => ∃ j : Nat, vj = .int .i64 j ∧ j ≤ len ∧ Pen wr w.heap.size pb (firsts X j) ∧ Below w.heap.size w wr ∧ (firsts X j).length ≤ 400 * j) (fun vj _ => len - (intOf vj).toNat)
    case atStart => exact ⟨0, rfl, Nat.zero_le _, HST.out.1, HST.out.2, by simp [firsts_zero]⟩
    case round =>
      obtain ⟨j, rfl, hj, hpen, hbel2, hbl⟩ := hrel
      by_cases hlt : j < len
      · obtain ⟨bk, off, rfl, hbN, hc⟩ := (HX.out.keep hbel2) j hlt
        have hk := HK.out j hlt
        have hs := HS.out j hlt
        have hil := bytes_bound _ hk hs
        have hfs := Lib.hid (firsts_succ X j)
        unfold It.bytes at hil hfs
        generalize hxj : X j = x at *
        clear hxj
        obtain ⟨kind, num, int, text, most⟩ := x
        have c0 := hc 0 _ rfl
        have c1 := hc 1 _ rfl
        have c2 := hc 2 _ rfl
        have c3 := hc 3 _ rfl
        have c4 := hc 4 _ rfl
        obtain ⟨k1, ⟨k2, k3⟩, k4⟩ := hk
        clear hc
        rw [Nat.add_zero] at c0
        simp only at hs hil hfs k1 k2 k3 k4
        have hbsz := hbel2.size
        generalize firsts X j = l at *
        go_wp2_with fail
        refine (write_any w.heap.size pb kind int most num text l _ k1 k2 k3 (by omega) (by omega) (hpen.alloc _) (by simp; omega)).mono ?_
        rintro e w2 ⟨v1, rfl, _, hpen1, hwr, _⟩
        have hb2 : Below w.heap.size w w2 := (hbel2.alloc hbsz _).trans (hwr.below (hpen.alloc _) (by simp; omega))
        have HP1 := Lib.hid hpen1
        have HB2 := Lib.hid hb2
        clear c0 c1 c2 c3 c4 hpen1 hwr hpen hbel2 hb2
        go_wp2
        go_roundw
        case rel => exact ⟨j + 1, by go_num, by omega, by rw [hfs.out]; exact HP1.out, HB2.out, by rw [hfs.out, List.length_append]; omega⟩
        case measure => simp [intOf]; omega
      · have hjl : j = len := by omega
        subst hjl
        have hbsz := hbel2.size
        go_wp2_with fail
        refine (penBytes_any w.heap.size pb (firsts X j) _ (by omega) hpen).mono ?_
        rintro e w2 ⟨v2, rfl, hown, hbelB⟩
        have hb2 := hbel2.trans (hbelB.mono hbsz)
        have hbs2 := bs_own (eb := w2.heap.size) hown (Nat.le_refl _) (by omega)
        obtain ⟨a2, c2, rfl⟩ := own_slice hown
        clear hown hpen hbel2 hbelB
        go_wp2_with fail
        refine (look_any (firsts X j) _ _ _ rfl hbs2).mono ?_
        rintro e w3 ⟨rfl, hk3⟩
        have HB2 := Lib.hid hb2
        have hk30 : Eye w3 w2.heap.size (rests X j 0) 0 := by rw [rests_zero]; exact hk3.1
        have hb3 : Below w.heap.size w w3 := hb2.trans ⟨hk3.2.os, hk3.2.tape, hk3.2.output, hk3.2.size, fun k hk => hk3.2.block k (by have := hb2.size; omega) (by have := hb2.size; omega)⟩
        have hbe : w.heap.size ≤ w2.heap.size := hb2.size
        have HE3 := Lib.hid (⟨hk30, hb3⟩ : _ ∧ _)
        clear hk3 hk30 hb3 hb2 hbs2
        obtain ⟨eb, heb⟩ : ∃ eb, eb = w2.heap.size := ⟨_, rfl⟩
        rw [← heb] at HE3 hbe ⊢
        clear heb
        go_wp2
        go_loopw [27] (fun vi wr => ∃ i : Nat, vi = .int .i64 i ∧ i ≤ j ∧ Eye wr eb (rests X j i) 0 ∧ Below w.heap.size w wr) (fun vi _ => j - (intOf vi).toNat)
        case atStart => exact ⟨0, rfl, Nat.zero_le _, HE3.out.1, HE3.out.2⟩
        case round =>
          obtain ⟨i, rfl, hi, he, hbw⟩ := hrel
          by_cases hlt : i < j
          · obtain ⟨bk, off, rfl, hbN, hc⟩ := (HX.out.keep hbw) i hlt
            have hk := HK.out i hlt
            have hs := HS.out i hlt
            have hstep := rests_step X j i hlt
            unfold It.bytes at hstep
            generalize hxj : X i = x at *
            clear hxj
            obtain ⟨kind, num, int, text, most⟩ := x
            have c0 := hc 0 _ rfl
            have c1 := hc 1 _ rfl
            have c2 := hc 2 _ rfl
            have c3 := hc 3 _ rfl
            have c4 := hc 4 _ rfl
            obtain ⟨k1, ⟨k2, k3⟩, k4⟩ := hk
            clear hc
            rw [Nat.add_zero] at c0
            simp only at hs hstep k1 k2 k3 k4
            have hel := eye_lt he
            have hbsz := hbw.size
            rw [hstep] at he
            have he9 : Eye (wr.alloc (.cells #[.int .i64 kind, .int .u64 num, .int .i64 int, .string text, .int .i64 most] 30)).drew eb (itemBytes kind num int text ++ rests X j (i + 1)) 0 := Eye.keep (w := wr) he (((Below.refl _ _).alloc (Nat.le_refl _) _).drew)
            have HBA := Lib.hid ((hbw.alloc hbsz (.cells #[.int .i64 kind, .int .u64 num, .int .i64 int, .string text, .int .i64 most] 30)).drew)
            clear he hstep hbw
            unfold itemBytes at he9
            obtain ⟨rest, hrest⟩ : ∃ rest, rest = rests X j (i + 1) := ⟨_, rfl⟩
            have HRS := Lib.hid hrest
            rw [← hrest] at he9
            clear hrest
            by_cases q1 : kind = 1
            · have hk1 : (kind == 1) = true := by simpa using q1
              rw [if_pos q1] at he9
              clear q1
              have hS0 : (wr.alloc (.cells #[.int .i64 kind, .int .u64 num, .int .i64 int, .string text, .int .i64 most] 30)).drew.cell? ⟨wr.heap.size, 2, none⟩ = some (.int .i64 int) := (World.cell?_alloc_new _ _ _ _).trans rfl
              have HE := Lib.hid he9
              clear he9
              go_wp2_with fail
              go_region_held_law (fun w' => w'.cell? ⟨wr.heap.size, 2, none⟩ = some (.int .i64 int)) (first | exact hS0 | exact hS5 | assumption) (first | (go_at_call 21; refine (int_back eb int rest _ k2 k3 (by exact HE.out)).mono ?_; rintro e w5 ⟨rfl, ht⟩; have hS5 : w5.cell? ⟨wr.heap.size, 2, none⟩ = some (.int .i64 int) := (ht.2.cell (p := ⟨wr.heap.size, 2, none⟩) (by show wr.heap.size < (wr.alloc _).heap.size; simp) (by show wr.heap.size ≠ eb; omega)).trans hS0))
              all_goals
                have HB5 := Lib.hid (HBA.out.trans (ew_under ht.2 hbe (by show w.heap.size ≤ (wr.alloc _).heap.size; simp; omega)))
                have HT := Lib.hid ht.1
                clear ht
                go_wp2
                go_roundw
                case rel => exact ⟨i + 1, by go_num, by omega, by rw [← HRS.out]; exact HT.out, HB5.out⟩
                case measure => simp [intOf]; omega
            rw [if_neg q1] at he9
            have hk1 : (kind == 1) = false := by simpa using q1
            clear q1
            by_cases q2 : kind = 2
            · have hk2 : (kind == 2) = true := by simpa using q2
              rw [if_pos q2] at he9
              clear q2
              have hqq : ((num : Int) % 2 == 1) = true ∨ ((num : Int) % 2 == 1) = false := by cases ((num : Int) % 2 == 1) <;> simp
              rcases hqq with hq | hq
              all_goals
                have htm : (num : Int).tmod 2 = (num : Int) % 2 := Int.tmod_eq_emod_of_nonneg (by omega)
                have htm2 : ((num : Int).tmod 2 == 1) = ((num : Int) % 2 == 1) := by rw [htm]
                have hS0 : (wr.alloc (.cells #[.int .i64 kind, .int .u64 num, .int .i64 int, .string text, .int .i64 most] 30)).drew.cell? ⟨wr.heap.size, 1, none⟩ = some (.int .u64 num) := (World.cell?_alloc_new _ _ _ _).trans rfl
                have HE := Lib.hid he9
                clear he9
                go_wp2_with fail
                go_region_held_law (fun w' => w'.cell? ⟨wr.heap.size, 1, none⟩ = some (.int .u64 num)) (first | exact hS0 | exact hS5 | assumption) (first | (go_at_call 22; refine (truth_back eb num rest _ (by exact HE.out)).mono ?_; rintro e w5 ⟨rfl, ht⟩; have hS5 : w5.cell? ⟨wr.heap.size, 1, none⟩ = some (.int .u64 num) := (ht.2.cell (p := ⟨wr.heap.size, 1, none⟩) (by show wr.heap.size < (wr.alloc _).heap.size; simp) (by show wr.heap.size ≠ eb; omega)).trans hS0))
                all_goals
                  have HB5 := Lib.hid (HBA.out.trans (ew_under ht.2 hbe (by show w.heap.size ≤ (wr.alloc _).heap.size; simp; omega)))
                  have HT := Lib.hid ht.1
                  clear ht
                  go_wp2
                  go_roundw
                  case rel => exact ⟨i + 1, by go_num, by omega, by rw [← HRS.out]; exact HT.out, HB5.out⟩
                  case measure => simp [intOf]; omega
            rw [if_neg q2] at he9
            have hk2 : (kind == 2) = false := by simpa using q2
            clear q2
            by_cases q3 : kind = 3
            · have hk3 : (kind == 3) = true := by simpa using q3
              rw [if_pos q3] at he9
              clear q3
              have hS0 : (wr.alloc (.cells #[.int .i64 kind, .int .u64 num, .int .i64 int, .string text, .int .i64 most] 30)).drew.cell? ⟨wr.heap.size, 3, none⟩ = some (.string text) := (World.cell?_alloc_new _ _ _ _).trans rfl
              have HE := Lib.hid he9
              clear he9
              go_wp2_with fail
              go_region_held_law (fun w' => w'.cell? ⟨wr.heap.size, 3, none⟩ = some (.string text)) (first | exact hS0 | exact hS5 | assumption) (first | (go_at_call 23; refine (text_back eb text rest _ (by omega) (by exact HE.out)).mono ?_; rintro e w5 ⟨rfl, ht⟩; have hS5 : w5.cell? ⟨wr.heap.size, 3, none⟩ = some (.string text) := (ht.2.cell (p := ⟨wr.heap.size, 3, none⟩) (by show wr.heap.size < (wr.alloc _).heap.size; simp) (by show wr.heap.size ≠ eb; omega)).trans hS0))
              all_goals
                have HB5 := Lib.hid (HBA.out.trans (ew_under ht.2 hbe (by show w.heap.size ≤ (wr.alloc _).heap.size; simp; omega)))
                have HT := Lib.hid ht.1
                clear ht
                go_wp2
                go_roundw
                case rel => exact ⟨i + 1, by go_num, by omega, by rw [← HRS.out]; exact HT.out, HB5.out⟩
                case measure => simp [intOf]; omega
            rw [if_neg q3] at he9
            have hk3 : (kind == 3) = false := by simpa using q3
            clear q3
            have hS0 : (wr.alloc (.cells #[.int .i64 kind, .int .u64 num, .int .i64 int, .string text, .int .i64 most] 30)).drew.cell? ⟨wr.heap.size, 1, none⟩ = some (.int .u64 num) := (World.cell?_alloc_new _ _ _ _).trans rfl
            have HE := Lib.hid he9
            clear he9
            go_wp2_with fail
            go_region_held_law (fun w' => w'.cell? ⟨wr.heap.size, 1, none⟩ = some (.int .u64 num)) (first | exact hS0 | exact hS5 | assumption) (first | (go_at_call 24; refine (num_back eb num rest _ k1 (by exact HE.out)).mono ?_; rintro e w5 ⟨rfl, ht⟩; have hS5 : w5.cell? ⟨wr.heap.size, 1, none⟩ = some (.int .u64 num) := (ht.2.cell (p := ⟨wr.heap.size, 1, none⟩) (by show wr.heap.size < (wr.alloc _).heap.size; simp) (by show wr.heap.size ≠ eb; omega)).trans hS0))
            all_goals
              have HB5 := Lib.hid (HBA.out.trans (ew_under ht.2 hbe (by show w.heap.size ≤ (wr.alloc _).heap.size; simp; omega)))
              have HT := Lib.hid ht.1
              clear ht
              go_wp2
              go_roundw
              case rel => exact ⟨i + 1, by go_num, by omega, by rw [← HRS.out]; exact HT.out, HB5.out⟩
              case measure => simp [intOf]; omega
          · have hij : i = j := by omega
            subst hij
            rw [rests_end X i i (Nat.le_refl _)] at he
            go_wp2_with fail
            refine (close_end eb 0 _ he).mono ?_
            rintro e w4 ⟨rfl, rfl⟩
            go_wp2_with fail
            refine (lives01 _).mono ?_
            rintro e w5 ⟨rfl, hb5⟩
            go_wp2
            go_ret
            exact ⟨rfl, hbw.trans (hb5.mono hbw.size)⟩
end Go.Proofs.Ytajheohdhiojcaa
