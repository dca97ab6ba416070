/- What is read of an answer's bytes: a sound one as it was; of an unsound one's nothing. No walk. -/
import Derived.Test.YtgckgagnodkhjaaRRRRDoorAnsRead
import Derived.Test.YtgckgagnodkhjaaRRRRDoorAnsWrite
namespace Go.Proofs.YtgckgagnodkhjaaRRRRDoor
open Go.RowKit

theorem pairF_back (p : ByteArray × Int) (rest : List UInt8) (h1 : p.1.size ≤ 64) (h0 : 0 ≤ p.2) (h2 : p.2 < 18446744073709551616) : pairF (pairL p ++ rest, 0) = (p, (rest, 0)) := by
  unfold pairF pairL
  rw [List.append_assoc, eT_txt p.1 _ h1]
  simp only
  rw [eN_uv 18446744073709551615 p.2.toNat rest (by omega) (by omega)]
  simp only
  rw [Int.toNat_of_nonneg h0]

theorem sev_back : ∀ (ps acc : List (ByteArray × Int)) (rest : List UInt8), (∀ p ∈ ps, p.1.size ≤ 64 ∧ 0 ≤ p.2 ∧ p.2 < 18446744073709551616) → sevA ps.length acc (ps.flatMap pairL ++ rest, 0) = (acc ++ ps, (rest, 0))
  | [], acc, rest, _ => by simp [sevA]
  | p :: ps, acc, rest, h => by
    have hp := h p (List.mem_cons_self ..)
    have hb := pairF_back p (ps.flatMap pairL ++ rest) hp.1 hp.2.1 hp.2.2
    have ih := sev_back ps (acc ++ [p]) rest (fun q hq => h q (List.mem_cons_of_mem _ hq))
    rw [List.flatMap_cons, List.append_assoc]
    show (if (pairF (pairL p ++ (ps.flatMap pairL ++ rest), 0)).2.2 = 0 then sevA ps.length (acc ++ [(pairF (pairL p ++ (ps.flatMap pairL ++ rest), 0)).1]) (pairF (pairL p ++ (ps.flatMap pairL ++ rest), 0)).2 else ([], (pairF (pairL p ++ (ps.flatMap pairL ++ rest), 0)).2)) = _
    rw [hb]
    simp only [if_true]
    rw [ih]
    simp

theorem ansF_back (k : Nat) (key : ByteArray) (v : Nat) (ps : List (ByteArray × Int)) (rest : List UInt8) (hk : k ≤ 6) (hy : key.size ≤ 64) (hv : v < 18446744073709551616) (hn : ps.length ≤ 4096) (h : ∀ p ∈ ps, p.1.size ≤ 64 ∧ 0 ≤ p.2 ∧ p.2 < 18446744073709551616) :
    ansF (Lib.uvarint k ++ (txtL key ++ ((Lib.uvarint v ++ Lib.uvarint ps.length) ++ ps.flatMap pairL)) ++ rest, 0) = ((k, key, v, ps), (rest, 0)) := by
  have e1 := eN_uv 6 k (txtL key ++ (Lib.uvarint v ++ (Lib.uvarint ps.length ++ (ps.flatMap pairL ++ rest)))) hk (by omega)
  have e2 := eT_txt key (Lib.uvarint v ++ (Lib.uvarint ps.length ++ (ps.flatMap pairL ++ rest))) hy
  have e3 := eN_uv 18446744073709551615 v (Lib.uvarint ps.length ++ (ps.flatMap pairL ++ rest)) (by omega) hv
  have e4 := eN_uv 4096 ps.length (ps.flatMap pairL ++ rest) hn (by omega)
  have e5 := sev_back ps [] rest h
  have e0 : Lib.uvarint k ++ (txtL key ++ ((Lib.uvarint v ++ Lib.uvarint ps.length) ++ ps.flatMap pairL)) ++ rest = Lib.uvarint k ++ (txtL key ++ (Lib.uvarint v ++ (Lib.uvarint ps.length ++ (ps.flatMap pairL ++ rest)))) := by simp only [List.append_assoc]
  rw [e0]
  unfold ansF
  simp only [e1, e2, e3, e4, e5, List.nil_append]

/-- A sound answer is read as it was. -/
theorem ansRead_sound (k : Int) (key : ByteArray) (v : Nat) (ps : List (ByteArray × Int)) (rest : List UInt8) (hs : ansSoundB k key ps = true) (hv : v < 18446744073709551616) (hz : ∀ i, i < ps.length → 0 ≤ (ntp ps i).2 ∧ (ntp ps i).2 < 18446744073709551616) :
    ansReadF (ansBytes k key v ps ++ rest, 0) = (((k.toNat, key, v, ps), true), (rest, 0)) := by
  obtain ⟨⟨hk1, hk2⟩, hy, hn, hp⟩ := sound_parts17 hs
  have hall : ∀ p ∈ ps, p.1.size ≤ 64 ∧ 0 ≤ p.2 ∧ p.2 < 18446744073709551616 := fun p hm => by
    obtain ⟨i, hi, rfl⟩ := List.getElem_of_mem hm
    have h1 := hp i hi
    have h2 := hz i hi
    rw [ntp_eq hi] at h1 h2
    exact ⟨h1, h2⟩
  have hf := ansF_back k.toNat key v ps rest (by omega) hy hv hn hall
  have hkk : ((k.toNat : Nat) : Int) = k := Int.toNat_of_nonneg (by omega)
  unfold ansBytes ansBytesS
  rw [if_pos hs]
  unfold ansReadF
  rw [hf]
  simp only [hkk, hs, if_true]

/-- Of an unsound answer's bytes nothing is read. -/
theorem ansRead_unsound (k : Int) (key : ByteArray) (v : Nat) (ps : List (ByteArray × Int)) (rest : List UInt8) (hs : ansSoundB k key ps = false) : (ansReadF (ansBytes k key v ps ++ rest, 0)).1.2 = false := by
  have hb : ansBytes k key v ps = Lib.uvarint 0 := by unfold ansBytes; rw [hs]; rfl
  rw [hb]
  have hc : (ansF (Lib.uvarint 0 ++ rest, 0)).1.1 = 0 := by
    unfold ansF
    rw [eN_uv 6 0 rest (by omega) (by omega)]
  unfold ansReadF
  rw [hc]
  have hn : ∀ t ps, ansSoundB ((0 : Nat) : Int) t ps = false := fun t ps => by
    unfold ansSoundB kB
    simp
  rw [hn]
  simp only [Bool.false_eq_true, if_false]
  have hq : (if (ansF (Lib.uvarint 0 ++ rest, 0)).2.2 = 0 then (10 : Int) else (ansF (Lib.uvarint 0 ++ rest, 0)).2.2) ≠ 0 := by
    split
    · decide
    · assumption
  rw [if_neg hq]
end Go.Proofs.YtgckgagnodkhjaaRRRRDoor
