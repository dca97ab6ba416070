/- quote.number and quote.part: what the head of a quote's inside stands for; nothing that was there has turned. Condition: a text of at most 2^43 bytes, not empty for part. -/
import Derived.Test.YtajheohdhiojcaaQuoteCount
namespace Go.Proofs.Ytajheohdhiojcaa
open Go.RowKit

theorem idx_hex : ∀ n : Fin 256, Lib.indexByte hexList n.val.toUInt8 = (match hexv n.val.toUInt8 with | some v => (v : Int) | none => -1) := by decide +kernel
theorem idx_byte (b : UInt8) : Lib.indexByte hexList b = (match hexv b with | some v => (v : Int) | none => -1) := by
  have h := idx_hex ⟨b.toNat, b.toNat_lt⟩
  simpa using h
theorem hexv_fin : ∀ n : Fin 256, ∀ v, hexv n.val.toUInt8 = some v → v < 16 := by decide +kernel
theorem hexv_lt (b : UInt8) (v : Nat) (h : hexv b = some v) : v < 16 := hexv_fin ⟨b.toNat, b.toNat_lt⟩ v (by simpa using h)

theorem unum_short : ∀ (d n : Nat) (l : List UInt8), l.length < d → unum d n l = none
  | 0, _, _, h => absurd h (Nat.not_lt_zero _)
  | _ + 1, _, [], _ => rfl
  | d + 1, n, b :: r, h => by
    unfold unum
    split
    · rfl
    · exact unum_short d _ r (by simpa using h)

theorem unum_lt : ∀ (d n : Nat) (l : List UInt8) (m k : Nat), n < 16 ^ k → unum d n l = some m → m < 16 ^ (k + d)
  | 0, n, _, m, k, h, e => by
    have : n = m := by simpa [unum] using e
    rw [← this]; simpa using h
  | _ + 1, _, [], _, _, _, e => by simp [unum] at e
  | d + 1, n, b :: r, m, k, h, e => by
    unfold unum at e
    split at e
    · simp at e
    · rename_i v hv
      have hv := hexv_lt b v hv
      have := unum_lt d (n * 16 + v) r m (k + 1) (by rw [Nat.pow_succ]; omega) e
      rw [show k + (d + 1) = k + 1 + d by omega]
      exact this

theorem or_dig (n v : Nat) (hn : n < 65536) (hv : v < 16) : bits .or .i32 ((n : Int) * 16) (v : Int) = ((n * 16 + v : Nat) : Int) := by
  have h := (bits_nat .i32 31 (by decide) (fun n h0 h1 => by rw [IntKind.wrap_i32]; omega) (n * 16) v (by omega) (by omega)).2
  rw [show ((n : Int) * 16) = ((n * 16 : Nat) : Int) by omega, h]
  congr 1
  rw [Nat.mul_comm, show (16 : Nat) = 2 ^ 4 from rfl, ← Nat.two_pow_add_eq_or_of_lt (by omega)]

theorem idx_call (b : UInt8) (z : Int) (h : Lib.indexByte hexList b = z) (w : World) :
    Calls Try.prog 86 #[.string ⟨#[48, 49, 50, 51, 52, 53, 54, 55, 56, 57, 97, 98, 99, 100, 101, 102]⟩, .int .u8 (b.toNat : Nat)] w fun e w' => e = .returned (.int .i64 z) ∧ w = w' := by
  refine (Try.strings_IndexByte _ _ _).mono ?_
  rintro e w' ⟨rfl, hw⟩
  refine ⟨ret_val ?_, hw.symm⟩
  have e1 : (((b.toNat : Nat) : Int)).toNat.toUInt8 = b := by simp
  rw [e1, ← h]
  rfl

def NumGives (e : Ending) (r : Option Nat) : Prop :=
  match r with
  | some n => e = .returned (.tuple #[.int .i32 (n : Nat), .bool true])
  | none => e = .returned (.tuple #[.int .i32 0, .bool false])

set_option maxHeartbeats 1600000 in
set_option maxRecDepth 100000 in
theorem number_any (s : ByteArray) (d : Nat) (w : World) (hd : d ≤ 4) :
    Calls Try.prog 85 #[.string s, .int .i64 d] w fun e w' => NumGives e (unum d 0 s.data.toList) ∧ w = w' := by
  by_cases hsh : s.size < d
  · have hu := unum_short d 0 s.data.toList (by simpa using hsh)
    have HU := Lib.hid hu
    clear hu
    go_enter Try.func85, Try.ntmps85
    go_wp2
    go_ret2
    refine ⟨?_, rfl⟩
    rw [HU.out]
    exact rfl
  · go_enter Try.func85, Try.ntmps85
    go_wp2
    go_loop [6, 14] (fun vn vi => ∃ n i : Nat, vn = .int .i32 n ∧ vi = .int .i64 i ∧ i ≤ d ∧ n < 65536 ∧ Hid (n < 16 ^ i ∧ unum d 0 s.data.toList = unum (d - i) n (s.data.toList.drop i))) (fun _ vi => d - (intOf vi).toNat)
    case atStart => exact ⟨0, 0, rfl, rfl, Nat.zero_le _, by omega, Lib.hid ⟨by simp, by simp⟩⟩
    case round =>
      obtain ⟨n, i, rfl, rfl, hi, hn, hu⟩ := hrel
      by_cases hlt : i < d
      · have hp : i < s.size := by omega
        have hdr : s.data.toList.drop i = s[i]'hp :: s.data.toList.drop (i + 1) := by
          rw [List.drop_eq_getElem_cons (by simpa using hp)]; rfl
        have hix := idx_byte (s[i]'hp)
        have hst := hu.out.2
        rw [hdr, show d - i = (d - (i + 1)) + 1 by omega] at hst
        have hn16 := hu.out.1
        cases hv : hexv (s[i]'hp) with
        | none =>
          rw [hv] at hix
          simp only [unum, hv] at hst
          have HST := Lib.hid hst
          have HIX := fun w => Lib.hid (idx_call _ _ hix w)
          clear hst hv hix hdr hn16
          go_wp2_with fail
          refine (HIX _).out.mono ?_
          rintro e w' ⟨rfl, rfl⟩
          go_wp2
          go_ret2
          refine ⟨?_, rfl⟩
          rw [HST.out]
          exact rfl
        | some v =>
          rw [hv] at hix
          simp only [unum, hv] at hst
          have hv16 := hexv_lt _ _ hv
          have h3 : i ≤ 3 := by omega
          have hn3 : n < 4096 := by
            have : (16 : Nat) ^ i ≤ 16 ^ 3 := Nat.pow_le_pow_right (by omega) h3
            omega
          have hor := or_dig n v hn hv16
          have hnn : n * 16 + v < 16 ^ (i + 1) := by rw [Nat.pow_succ]; omega
          have HST := Lib.hid hst
          have HN := Lib.hid hnn
          have HIX := fun w => Lib.hid (idx_call _ _ hix w)
          clear hst hv hix hdr hn16 hnn
          go_wp2_with fail
          refine (HIX _).out.mono ?_
          rintro e w' ⟨rfl, rfl⟩
          go_wp2
          go_round
          case rel => exact ⟨n * 16 + v, i + 1, by go_num, by go_num, by omega, by omega, Lib.hid ⟨HN.out, HST.out⟩⟩
          case measure => simp [intOf]; omega
      · have hid : i = d := by omega
        subst hid
        have hu2 := hu.out.2
        rw [Nat.sub_self] at hu2
        have HU := Lib.hid (show unum i 0 s.data.toList = some n from by rw [hu2]; rfl)
        clear hu2
        go_wp2
        go_ret2
        refine ⟨?_, rfl⟩
        rw [HU.out]
        exact rfl

theorem gb_at {s : ByteArray} {i : Nat} (h : i < s.size) : gb s.data.toList i = (s[i]'h).toNat := by
  unfold gb
  rw [List.getElem?_eq_getElem (by simpa using h)]
  rfl

def PartGives (w w' : World) (e : Ending) (r : List UInt8 × Nat) : Prop := e = .returned (.tuple #[.string ⟨r.1.toArray⟩, .int .i64 (r.2 : Nat)]) ∧ Below w.heap.size w w'

theorem ext_mid (s : ByteArray) (i j : Nat) : s.extract i j = ⟨((s.data.toList.drop i).take (j - i)).toArray⟩ := by
  apply ByteArray.ext
  rw [ByteArray.data_extract]
  apply Array.ext'
  simp [List.extract_eq_take_drop]

theorem len_toList (s : ByteArray) : s.data.toList.length = s.size := by simp

theorem enc_eq (n : Nat) (h : n < 65536) : Utf8.encode (n : Int) = ⟨(Lib.encodeRune (n : Int)).toArray⟩ := by
  have hv := valid_iff n
  unfold Lib.encodeRune
  by_cases c0 : n < 128
  · have e : Utf8.valid (n : Int) = true := hv.2 (by omega)
    rw [Lib.encodeRuneZ_one (by omega) (by omega)]
    simp [Utf8.encode, e, c0]
  by_cases c1 : n < 2048
  · have e : Utf8.valid (n : Int) = true := hv.2 (by omega)
    rw [Lib.encodeRuneZ_two (by omega) (by omega)]
    simp only [Utf8.encode, e, if_true, Int.toNat_natCast, if_neg c0, if_pos c1, List.map_cons, List.map_nil]
    rw [show ((192 : Int) + (n : Int) / 64).toNat = 192 + n / 64 by omega, show ((128 : Int) + (n : Int) % 64).toNat = 128 + n % 64 by omega]
  by_cases c2 : Utf8.valid (n : Int) = true
  · have e2 := hv.1 c2
    rw [Lib.encodeRuneZ_three (by omega)]
    simp only [Utf8.encode, c2, if_true, Int.toNat_natCast, if_neg c0, if_neg c1, if_pos h, List.map_cons, List.map_nil]
    rw [show ((224 : Int) + (n : Int) / 4096).toNat = 224 + n / 4096 by omega, show ((128 : Int) + (n : Int) / 64 % 64).toNat = 128 + n / 64 % 64 by omega, show ((128 : Int) + (n : Int) % 64).toNat = 128 + n % 64 by omega]
  · have e2 : ¬ (n < 55296 ∨ (57344 ≤ n ∧ n ≤ 1114111)) := fun hh => c2 (hv.2 hh)
    rw [Lib.encodeRuneZ_bad (by omega)]
    simp [Utf8.encode, c2, Utf8.runeError]

set_option maxHeartbeats 1600000 in
set_option maxRecDepth 100000 in
theorem part_plain (s : ByteArray) (w : World) (h : 0 < s.size) (h0 : (s[0]'h).toNat ≠ 92) :
    Calls Try.prog 78 #[.string s] w fun e w' => PartGives w w' e (upart s.data.toList) := by
  have hu : upart s.data.toList = (s.data.toList.take 1, 1) := by unfold upart; rw [if_pos (by rw [gb_at h]; exact h0)]
  have HU := Lib.hid hu
  have d0 : (((s[0]'h).toNat : Int) != 92) = true := by simp; omega
  have H0 := Lib.hid h0
  have hi : (0 : Int) < s.size := by omega
  clear hu h0
  go_enter Try.func78, Try.ntmps78
  go_wp2
  go_ret2
  refine ⟨?_, Below.refl _ _⟩
  rw [HU.out, ← ext_take]
  rfl

set_option maxHeartbeats 1600000 in
set_option maxRecDepth 100000 in
theorem part_short (s : ByteArray) (w : World) (h : 0 < s.size) (h0 : (s[0]'h).toNat = 92) (h1 : s.size < 2) :
    Calls Try.prog 78 #[.string s] w fun e w' => PartGives w w' e (upart s.data.toList) := by
  have hu : upart s.data.toList = ([], 0) := by unfold upart; rw [if_neg (by rw [gb_at h, h0]; simp), if_pos (by rw [len_toList]; exact h1)]
  have HU := Lib.hid hu
  have d0 : (((s[0]'h).toNat : Int) != 92) = false := by simp; omega
  have H0 := Lib.hid h0
  have hi : (0 : Int) < s.size := by omega
  clear hu h0
  go_enter Try.func78, Try.ntmps78
  go_wp2
  go_ret2
  refine ⟨?_, Below.refl _ _⟩
  rw [HU.out]
  rfl

set_option maxHeartbeats 1600000 in
set_option maxRecDepth 100000 in
theorem part_sign (s : ByteArray) (w : World) (h : 1 < s.size) (h0 : (s[0]'(by omega)).toNat = 92) (h1 : (s[1]'h).toNat = 34 ∨ (s[1]'h).toNat = 92) :
    Calls Try.prog 78 #[.string s] w fun e w' => PartGives w w' e (upart s.data.toList) := by
  have hu : upart s.data.toList = ([(gb s.data.toList 1).toUInt8], 2) := by
    unfold upart; rw [if_neg (by rw [gb_at (by omega), h0]; simp), if_neg (by rw [len_toList]; omega), if_pos (by rw [gb_at h]; exact h1)]
  have hx : (s.data.toList.drop 1).take 1 = [(gb s.data.toList 1).toUInt8] := by
    have := take1 (l := s.data.toList.drop 1) (by simp; omega)
    rw [this]
    unfold gb
    rw [List.getElem?_drop]
  have HU := Lib.hid hu
  have HX := Lib.hid (show s.extract 1 2 = ⟨[(gb s.data.toList 1).toUInt8].toArray⟩ by rw [ext_mid, hx])
  have d0 : (((s[0]'(by omega)).toNat : Int) != 92) = false := by simp; omega
  have d2 : (((s[1]'h).toNat : Int) == 34) = true ∨ (((s[1]'h).toNat : Int) == 34) = false ∧ (((s[1]'h).toNat : Int) == 92) = true := by
    rcases h1 with e | e
    · left; simp; omega
    · right; constructor <;> simp <;> omega
  have hi : (1 : Int) < s.size := by omega
  have hi0 : (0 : Int) < s.size := by omega
  clear hu h0 h1 hx
  rcases d2 with d2 | ⟨d2, d3⟩
  all_goals
    go_enter Try.func78, Try.ntmps78
    go_wp2
    go_ret2
    refine ⟨?_, Below.refl _ _⟩
    show Ending.returned (.tuple #[.string (s.extract 1 2), .int .i64 2]) = _
    rw [HU.out, HX.out]
    rfl

set_option maxHeartbeats 1600000 in
set_option maxRecDepth 100000 in
theorem part_other (s : ByteArray) (w : World) (h : 1 < s.size) (h0 : (s[0]'(by omega)).toNat = 92) (h1 : (s[1]'h).toNat ≠ 34) (h2 : (s[1]'h).toNat ≠ 92) (h3 : (s[1]'h).toNat ≠ 120) (h4 : (s[1]'h).toNat ≠ 117) :
    Calls Try.prog 78 #[.string s] w fun e w' => PartGives w w' e (upart s.data.toList) := by
  have hu : upart s.data.toList = ([], 0) := by
    unfold upart
    rw [if_neg (by rw [gb_at (by omega), h0]; simp), if_neg (by rw [len_toList]; omega), gb_at h, if_neg (by omega), if_neg h3, if_neg h4]
  have HU := Lib.hid hu
  have d0 : (((s[0]'(by omega)).toNat : Int) != 92) = false := by simp; omega
  have d1 : (((s[1]'h).toNat : Int) == 34) = false := by simp; omega
  have d2 : (((s[1]'h).toNat : Int) == 92) = false := by simp; omega
  have d3 : (((s[1]'h).toNat : Int) == 120) = false := by simp; omega
  have d4 : (((s[1]'h).toNat : Int) == 117) = false := by simp; omega
  have hi : (1 : Int) < s.size := by omega
  have hi0 : (0 : Int) < s.size := by omega
  clear hu h0 h1 h2 h3 h4
  go_enter Try.func78, Try.ntmps78
  go_wp2
  go_ret2
  refine ⟨?_, Below.refl _ _⟩
  rw [HU.out]
  rfl

set_option maxHeartbeats 1600000 in
set_option maxRecDepth 100000 in
theorem part_x (s : ByteArray) (w : World) (h : 1 < s.size) (h0 : (s[0]'(by omega)).toNat = 92) (h1 : (s[1]'h).toNat = 120) :
    Calls Try.prog 78 #[.string s] w fun e w' => PartGives w w' e (upart s.data.toList) := by
  have hu : upart s.data.toList = (match unum 2 0 (s.data.toList.drop 2) with | some n => ([n.toUInt8], 4) | none => ([], 0)) := by
    unfold upart
    rw [if_neg (by rw [gb_at (by omega), h0]; simp), if_neg (by rw [len_toList]; omega), gb_at h, if_neg (by omega), if_pos h1]
    rfl
  have hnum := number_any (s.extract 2 s.size) 2 w (by omega)
  rw [ext_drop] at hnum
  have HU := Lib.hid hu
  have d0 : (((s[0]'(by omega)).toNat : Int) != 92) = false := by simp; omega
  have d1 : (((s[1]'h).toNat : Int) == 34) = false := by simp; omega
  have d2 : (((s[1]'h).toNat : Int) == 92) = false := by simp; omega
  have d3 : (((s[1]'h).toNat : Int) == 120) = true := by simp; omega
  have hi : (1 : Int) < s.size := by omega
  have hi0 : (0 : Int) < s.size := by omega
  have hi2 : (2 : Int) ≤ s.size := by omega
  clear hu h0 h1
  cases hun : unum 2 0 (s.data.toList.drop 2) with
  | none =>
    rw [hun] at hnum HU
    have HN := Lib.hid hnum
    clear hnum hun
    go_enter Try.func78, Try.ntmps78
    go_wp2_with fail
    refine HN.out.mono ?_
    rintro e w1 ⟨hN, rfl⟩
    unfold NumGives at hN
    simp only at hN
    subst hN
    go_wp2
    go_ret2
    refine ⟨?_, Below.refl _ _⟩
    rw [HU.out]
    rfl
  | some n =>
    have hn := unum_lt 2 0 _ n 0 (by omega) hun
    rw [hun] at hnum HU
    have hn256 : n < 256 := by simpa using hn
    have HN := Lib.hid hnum
    have hcv : (convert 25 9 (.slice (some ⟨w.heap.size, 0, none⟩) 1 1)).run Try.prog (w.alloc (.cells #[.int .u8 (n : Nat)] 5)) = .ok (.string ⟨#[n.toUInt8]⟩) (w.alloc (.cells #[.int .u8 (n : Nat)] 5)) := by
      have h := World.ownsRow_lit (base := w.heap.size) (e := 5) (size := 1) w #[Value.int .u8 (n : Nat)] 1 (Nat.le_refl _) (by unfold maxLen; omega) rfl
      exact conv_row (l := [n.toUInt8]) (own_of h (by simp [Lib.byteCells]; omega))
    clear hnum hun hn
    go_enter Try.func78, Try.ntmps78
    go_wp2_with fail
    refine HN.out.mono ?_
    rintro e w1 ⟨hN, rfl⟩
    unfold NumGives at hN
    simp only at hN
    subst hN
    go_wp2
    go_ret2
    refine ⟨?_, (Below.refl _ _).alloc (Nat.le_refl _) _⟩
    rw [HU.out]
    rfl

set_option maxHeartbeats 1600000 in
set_option maxRecDepth 100000 in
theorem part_u (s : ByteArray) (w : World) (h : 1 < s.size) (h0 : (s[0]'(by omega)).toNat = 92) (h1 : (s[1]'h).toNat = 117) :
    Calls Try.prog 78 #[.string s] w fun e w' => PartGives w w' e (upart s.data.toList) := by
  have hu : upart s.data.toList = (match unum 4 0 (s.data.toList.drop 2) with | some n => (Lib.encodeRune (n : Nat), 6) | none => ([], 0)) := by
    unfold upart
    rw [if_neg (by rw [gb_at (by omega), h0]; simp), if_neg (by rw [len_toList]; omega), gb_at h, if_neg (by omega), if_neg (by omega), if_pos h1]
    rfl
  have hnum := number_any (s.extract 2 s.size) 4 w (by omega)
  rw [ext_drop] at hnum
  have HU := Lib.hid hu
  have d0 : (((s[0]'(by omega)).toNat : Int) != 92) = false := by simp; omega
  have d1 : (((s[1]'h).toNat : Int) == 34) = false := by simp; omega
  have d2 : (((s[1]'h).toNat : Int) == 92) = false := by simp; omega
  have d3 : (((s[1]'h).toNat : Int) == 120) = false := by simp; omega
  have d4 : (((s[1]'h).toNat : Int) == 117) = true := by simp; omega
  have hi : (1 : Int) < s.size := by omega
  have hi0 : (0 : Int) < s.size := by omega
  have hi2 : (2 : Int) ≤ s.size := by omega
  clear hu h0 h1
  cases hun : unum 4 0 (s.data.toList.drop 2) with
  | none =>
    rw [hun] at hnum HU
    have HN := Lib.hid hnum
    clear hnum hun
    go_enter Try.func78, Try.ntmps78
    go_wp2_with fail
    refine HN.out.mono ?_
    rintro e w1 ⟨hN, rfl⟩
    unfold NumGives at hN
    simp only at hN
    subst hN
    go_wp2
    go_ret2
    refine ⟨?_, Below.refl _ _⟩
    rw [HU.out]
    rfl
  | some n =>
    have hn := unum_lt 4 0 _ n 0 (by omega) hun
    rw [hun] at hnum HU
    have hn256 : n < 65536 := by simpa using hn
    have HN := Lib.hid hnum
    clear hnum hun hn
    go_enter Try.func78, Try.ntmps78
    go_wp2_with fail
    refine HN.out.mono ?_
    rintro e w1 ⟨hN, rfl⟩
    unfold NumGives at hN
    simp only at hN
    subst hN
    go_wp2
    go_ret2
    refine ⟨?_, Below.refl _ _⟩
    show Ending.returned (.tuple #[.string (Utf8.encode (n : Nat)), .int .i64 6]) = _
    rw [HU.out, enc_eq n hn256]
    rfl

theorem part_any (s : ByteArray) (w : World) (h : 0 < s.size) :
    Calls Try.prog 78 #[.string s] w fun e w' => PartGives w w' e (upart s.data.toList) := by
  by_cases h0 : (s[0]'h).toNat = 92
  · by_cases h2 : s.size < 2
    · exact part_short s w h h0 h2
    · have h1 : 1 < s.size := by omega
      by_cases c1 : (s[1]'h1).toNat = 34 ∨ (s[1]'h1).toNat = 92
      · exact part_sign s w h1 h0 c1
      by_cases c2 : (s[1]'h1).toNat = 120
      · exact part_x s w h1 h0 c2
      by_cases c3 : (s[1]'h1).toNat = 117
      · exact part_u s w h1 h0 c3
      · exact part_other s w h1 h0 (by omega) (by omega) c2 c3
  · exact part_plain s w h h0
end Go.Proofs.Ytajheohdhiojcaa
