/- The document's own 'Parts' (bowerref02): a text's pieces, and which are strays, as two rows of the call's own. Condition: a text of at most 2^43 bytes. -/
import Derived.Test.YtbghemndcndhpaaDoorQuoteSize
namespace Go.Proofs.YtbghemndcndhpaaDoor
open Go.RowKit

theorem Tryd.info9q : (Tryd.prog.info? 9).map (fun i => (i.zero, i.size, i.bytes)) = some (some (.string ⟨#[]⟩), 1, 16) := by kernel_rfl
theorem Tryd.info4q : (Tryd.prog.info? 4).map (fun i => (i.zero, i.size, i.bytes)) = some (some (.bool false), 1, 1) := by kernel_rfl

def strv (p : List UInt8 × Bool) : Value := .string (txt p.1)
def boolv (p : List UInt8 × Bool) : Value := .bool p.2

/-- Two rows of one's own, apart. -/
def Two (w0 w : World) (v4 v5 : Value) (ps qs : List (List UInt8 × Bool)) : Prop :=
  w.ownsRow w0.heap.size 9 1 v4 ps.length (ps.map strv) ∧ w.ownsRow w0.heap.size 4 1 v5 qs.length (qs.map boolv) ∧ (∀ g, v4.ownBlock = some g → v5.ownBlock ≠ some g) ∧ Below w0.heap.size w0 w

theorem Two.bools {w0 w w' : World} {v4 v5 v5' : Value} {ps qs : List (List UInt8 × Bool)} {x : List UInt8} {b : Bool} {o : Obj} (h : Two w0 w v4 v5 ps qs)
    (hown : w'.ownsRow w0.heap.size 4 1 v5' (qs.length + 1) (qs.map boolv ++ [.bool b])) (hg : (w.alloc o).grownBy w' v5.ownBlock) (hs : Sep (w.alloc o) v5 v5') : Two w0 w' v4 v5' ps (qs ++ [(x, b)]) := by
  obtain ⟨h4, h5, ha, hb⟩ := h
  have gb := gb_alloc hg
  have sp := sep_alloc hs
  refine ⟨h4.kept gb ?_, ?_, fun g e1 e2 => ?_, hb.grown gb hb.size fun k hk => (h5.lt k hk).1⟩
  · cases e : v4.ownBlock with
    | none => exact Or.inl rfl
    | some g => exact Or.inr fun e2 => ha g e e2.symm
  · rw [List.length_append, List.map_append]; exact hown
  · rcases sp with e | ⟨g', e, hg'⟩
    · exact ha g e1 (by rw [← e, e2])
    · rw [e] at e2
      injection e2 with e2
      have := (h4.lt g e1).2
      omega

theorem Two.strs {w0 w w' : World} {v4 v5 v4' : Value} {ps qs : List (List UInt8 × Bool)} {x : List UInt8} {b : Bool} {o : Obj} (h : Two w0 w v4 v5 ps qs)
    (hown : w'.ownsRow w0.heap.size 9 1 v4' (ps.length + 1) (ps.map strv ++ [.string (txt x)])) (hg : (w.alloc o).grownBy w' v4.ownBlock) (hs : Sep (w.alloc o) v4 v4') : Two w0 w' v4' v5 (ps ++ [(x, b)]) qs := by
  obtain ⟨h4, h5, ha, hb⟩ := h
  have gb := gb_alloc hg
  have sp := sep_alloc hs
  refine ⟨?_, h5.kept gb ?_, fun g e1 e2 => ?_, hb.grown gb hb.size fun k hk => (h4.lt k hk).1⟩
  · rw [List.length_append, List.map_append]; exact hown
  · cases e : v5.ownBlock with
    | none => exact Or.inl rfl
    | some g => exact Or.inr fun e2 => ha g e2.symm e
  · rcases sp with e | ⟨g', e, hg'⟩
    · exact ha g (by rw [← e, e1]) e2
    · rw [e] at e1
      injection e1 with e1
      have := (h5.lt g e2).2
      omega

theorem oneB (b : Bool) : ∀ u ∈ [Value.bool b], u.oneCell' = true := by
  intro u hu; simp at hu; subst hu; rfl
theorem oneS (s : ByteArray) : ∀ u ∈ [Value.string s], u.oneCell' = true := by
  intro u hu; simp at hu; subst hu; rfl

def PartsGives (w w' : World) (e : Ending) (l : List UInt8) : Prop := ∃ v4 v5, e = .returned (.tuple #[v4, v5]) ∧ Two w w' v4 v5 (pcs l) (pcs l)

theorem ext_piece (s : ByteArray) (pos m : Nat) : s.extract pos (pos + m) = txt ((s.data.toList.drop pos).take m) := by
  rw [ext_mid, Nat.add_sub_cancel_left]; rfl

set_option maxHeartbeats 4000000 in
set_option maxRecDepth 100000 in
theorem parts_any (s : ByteArray) (w : World) (hs : s.size ≤ 8589934592) :
    Calls Tryd.prog 37 #[.string s] w fun e w' => PartsGives w w' e s.data.toList := by
  obtain ⟨i0, hi, hz0, hz1, hz2⟩ := info_parts Tryd.info4q
  obtain ⟨i1, hj, hy0, hy1, hy2⟩ := info_parts Tryd.info9q
  go_enter Tryd.func37, Tryd.ntmps37
  go_wp2
  go_loopw [4, 5, 6] (fun v4 v5 v6 wr => ∃ pos k : Nat, v6 = .int .i64 pos ∧ pos ≤ s.size ∧ k ≤ pos ∧ Hid ((pcs s.data.toList).drop k = pcs (s.data.toList.drop pos)) ∧ Two w wr v4 v5 ((pcs s.data.toList).take k) ((pcs s.data.toList).take k)) (fun _ _ v6 _ => s.size - (intOf v6).toNat)
  case atStart => exact ⟨0, 0, rfl, Nat.zero_le _, Nat.zero_le _, Lib.hid (by simp), World.ownsRow_nil _ _ _ _, World.ownsRow_nil _ _ _ _, fun g h => by simp [Value.ownBlock] at h, Below.refl _ _⟩
  case round =>
    obtain ⟨pos, k, rfl, hle, hkp, hdr, htwo⟩ := hrel
    by_cases hp : pos < s.size
    · have hsz := fun w => size_any s pos w hp (by omega)
      have hne := drop_ne hp
      have hw := width_le _ hne
      have hws := width_sz _ hne
      have hst := stray_sz _ hne
      have hzl := (dec_sz _ hne).2.2.2.2.2
      have hl : (s.data.toList.drop pos).length = s.size - pos := by simp
      have hdr1 := hdr.out
      rw [pcs_drop hp] at hdr1
      have hk : (pcs s.data.toList)[k]? = some ((s.data.toList.drop pos).take (dec (s.data.toList.drop pos)).2, stray (s.data.toList.drop pos)) := by
        have := congrArg (fun l => l[0]?) hdr1
        simpa [List.getElem?_drop] using this
      have htk : (pcs s.data.toList).take (k + 1) = (pcs s.data.toList).take k ++ [((s.data.toList.drop pos).take (dec (s.data.toList.drop pos)).2, stray (s.data.toList.drop pos))] := by
        rw [List.take_add_one, hk]; rfl
      have hd2 : (pcs s.data.toList).drop (k + 1) = pcs (s.data.toList.drop (pos + (dec (s.data.toList.drop pos)).2)) := by
        have := congrArg (List.drop 1) hdr1
        rw [List.drop_drop] at this
        simpa using this
      have hPl : ((pcs s.data.toList).take k).length ≤ 8589934592 := by rw [List.length_take]; omega
      rw [hws] at htk hd2 hw
      rw [hst] at htk
      clear hdr hdr1 hk hws hst hne
      have HT := Lib.hid htk
      have HD := Lib.hid hd2
      clear htk hd2
      have hszz := hsz
      unfold SizeGives at hszz
      clear hsz
      generalize hPk : (pcs s.data.toList).take k = P at *
      generalize hm : sz (s.data.toList.drop pos) = m at *
      clear hm hPk
      by_cases hm0 : m = 0
      · subst hm0
        have HS := fun w => Lib.hid (hszz w)
        clear hszz hw
        go_wp2_with fail
        refine (HS _).out.mono ?_
        rintro e w1 ⟨rfl, rfl⟩
        go_wp2_with (at_builtin; refine wpList_append_sep _ rfl (.tmp 15) (.tmp 18) 70 rfl w.heap.size 4 i0 (.bool false) 1 1 Tryd.underlying70 hi hz0 hz1 hz2 rfl (by decide) _ _ _ rfl (htwo.2.1.alloc _) ⟨wr.heap.size, 0, none⟩ 1 1 [Value.bool true] rfl rfl (cells1 _ _ _) (oneB _) (by unfold maxLen; omega) (by omega) (by have := htwo.2.2.2.size; simp; omega) ?_)
        intro v5' w2 hown2 hgrow2 hsep2
        have ht2 := htwo.bools (x := (s.data.toList.drop pos).take 1) hown2 hgrow2 hsep2
        clear hown2 hgrow2 hsep2 htwo
        go_wp2_with (at_builtin; refine wpList_append_sep _ rfl (.tmp 22) (.tmp 29) 69 rfl w.heap.size 9 i1 (.string ⟨#[]⟩) 1 16 Tryd.underlying69 hj hy0 hy1 hy2 rfl (by decide) _ _ _ rfl (ht2.1.alloc _) ⟨w2.heap.size, 0, none⟩ 1 1 [Value.string (s.extract pos (pos + 1))] rfl rfl (cells1 _ _ _) (oneS _) (by unfold maxLen; omega) (by omega) (by have := ht2.2.2.2.size; simp; omega) ?_)
        intro v4' w3 hown3 hgrow3 hsep3
        rw [ext_piece] at hown3
        have ht3 := ht2.strs (b := true) hown3 hgrow3 hsep3
        clear hown3 hgrow3 hsep3 ht2
        go_wp2
        go_roundw
        case rel => exact ⟨pos + 1, k + 1, by go_num, by omega, by omega, Lib.hid HD.out, by rw [HT.out]; exact ht3⟩
        case measure => simp [intOf]; omega
      · have hmi : (1 : Int) ≤ (m : Int) := by omega
        have hme : ((m : Int) == 0) = false := by simp; omega
        have hmx : max m 1 = m := by omega
        have hmd : decide (m = 0) = false := by simpa using hm0
        have hm4 : m ≤ 4 := hzl
        rw [hmx] at hw HT HD
        rw [hmd] at HT
        have hpm : pos + m ≤ s.size := by omega
        have HS := fun w => Lib.hid (hszz w)
        clear hszz hw hmx hmd hzl
        go_wp2_with fail
        refine (HS _).out.mono ?_
        rintro e w1 ⟨rfl, rfl⟩
        go_wp2_with (at_builtin; refine wpList_append_sep _ rfl (.tmp 15) (.tmp 18) 70 rfl w.heap.size 4 i0 (.bool false) 1 1 Tryd.underlying70 hi hz0 hz1 hz2 rfl (by decide) _ _ _ rfl (htwo.2.1.alloc _) ⟨wr.heap.size, 0, none⟩ 1 1 [Value.bool false] rfl rfl (cells1 _ _ _) (oneB _) (by unfold maxLen; omega) (by omega) (by have := htwo.2.2.2.size; simp; omega) ?_)
        intro v5' w2 hown2 hgrow2 hsep2
        have ht2 := htwo.bools (x := (s.data.toList.drop pos).take m) hown2 hgrow2 hsep2
        clear hown2 hgrow2 hsep2 htwo
        go_wp2_with (at_builtin; refine wpList_append_sep _ rfl (.tmp 22) (.tmp 29) 69 rfl w.heap.size 9 i1 (.string ⟨#[]⟩) 1 16 Tryd.underlying69 hj hy0 hy1 hy2 rfl (by decide) _ _ _ rfl (ht2.1.alloc _) ⟨w2.heap.size, 0, none⟩ 1 1 [Value.string (s.extract pos (pos + m))] rfl rfl (cells1 _ _ _) (oneS _) (by unfold maxLen; omega) (by omega) (by have := ht2.2.2.2.size; simp; omega) ?_)
        intro v4' w3 hown3 hgrow3 hsep3
        rw [ext_piece] at hown3
        have ht3 := ht2.strs (b := false) hown3 hgrow3 hsep3
        clear hown3 hgrow3 hsep3 ht2
        go_wp2
        go_roundw
        case rel => exact ⟨pos + m, k + 1, by go_num, by omega, by omega, Lib.hid HD.out, by rw [HT.out]; exact ht3⟩
        case measure => simp [intOf]; omega
    · have hd := hdr.out
      rw [pcs_end hp] at hd
      have hkl := List.drop_eq_nil_iff.1 hd
      have ht := htwo
      rw [List.take_of_length_le hkl] at ht
      have HT := Lib.hid ht
      clear hd hdr htwo ht
      go_wp2
      go_ret2
      exact ⟨_, _, rfl, HT.out⟩
end Go.Proofs.YtbghemndcndhpaaDoor
