/- The law SipOnce, walked: it returns true; nothing that was there has turned. Conditions: the bytes lie in memory that was there; 'most' is an int. -/
import Derived.Test.YtajheohdhiojcaaEyeText
import Derived.Deep.RegionHeldLaw
import Derived.Test.YtajheohdhiojcaaSipLives
import Derived.Test.YtajheohdhiojcaaSipWritesWalk
namespace Go.Proofs.Ytajheohdhiojcaa
open Go.RowKit

theorem Bs.below {w w' : World} {eb : Nat} {v : Value} {bs : List UInt8} (h : Bs w eb v bs) (hb : Below w.heap.size w w') (eb' : Nat) (he : w.heap.size ≤ eb') : Bs w' eb' v bs := by
  obtain ⟨ao, c, h2, h3, h4, h5⟩ := h
  refine ⟨ao, c, h2, h3, h4, fun hne => ?_⟩
  obtain ⟨g, o, e, hg, hc⟩ := h5 hne
  have hpos := List.length_pos_iff.2 hne
  have hlt := World.block_lt_of_cell? w _ (hc 0 hpos)
  exact ⟨g, o, e, by show g ≠ eb'; simp only at hlt; omega, fun j hj => (hb.cell (p := ⟨g, o + j, none⟩) (World.block_lt_of_cell? w _ (hc j hj))).trans (hc j hj)⟩

theorem below_on {a b c : World} {P1 P2 P3 : Prop} (h : P1 ∧ P2 ∧ P3 ∧ Below a.heap.size a b) (k : Below b.heap.size b c) : Below a.heap.size a c := h.2.2.2.trans (k.mono h.2.2.2.size)

theorem lt_of_eye {w : World} {eb : Nat} {bs : List UInt8} {f : Int} (h : Eye w eb bs f) : eb < w.heap.size := by obtain ⟨_, h, _⟩ := h; exact lt_of_block h

theorem ew_below {w w' : World} {B eb : Nat} (h : Ew eb w w') (hB : B ≤ eb) (hB2 : B ≤ w.heap.size) : Below B w w' := ⟨h.os, h.tape, h.output, h.size, fun k hk => h.block k (by omega) (by omega)⟩

/-- 'string(b[:n])'. -/
theorem conv_take {w : World} {eb len c : Nat} {ao : Option Addr} {bs : List UInt8} (h : Bs w eb (.slice ao len c) bs) (n : Nat) (x : List UInt8) (hx : bs.take n = x) (hn : x.length = n) :
    (convert 25 9 (.slice ao n c)).run Try.prog w = .ok (.string ⟨x.toArray⟩) w := by
  obtain ⟨ao', c', e, h3, h4, h5⟩ := h
  injection e with e1 e2 e3
  subst e1 e2 e3
  subst hx
  refine conv_cells w ao n c (bs.take n) hn ?_
  by_cases h0 : n = 0
  · exact Or.inl h0
  · right
    have hne : bs ≠ [] := by intro e; subst e; simp at hn; exact h0 hn.symm
    obtain ⟨g, o, e, _, hc⟩ := h5 hne
    rw [List.length_take] at hn
    refine ⟨_, e, fun j hj => ?_⟩
    have hj2 := hj
    rw [List.length_take] at hj2
    have := hc j (by omega)
    rw [List.getElem_take, add_at]
    exact this

theorem Bs.len {w : World} {eb len c : Nat} {ao : Option Addr} {bs : List UInt8} (h : Bs w eb (.slice ao len c) bs) : len = bs.length ∧ bs.length ≤ c ∧ c ≤ 9223372036854775807 := by
  obtain ⟨ao', c', e, h3, h4, _⟩ := h
  injection e with e1 e2 e3
  subst e1 e2 e3
  exact ⟨rfl, h3, h4⟩

set_option maxHeartbeats 8000000 in
set_option maxRecDepth 100000 in
theorem sipOnce_any (bs : List UInt8) (len c : Nat) (ao : Option Addr) (most : Int) (w : World) (hb : Bs w w.heap.size (.slice ao len c) bs) (hm0 : -9223372036854775808 ≤ most) (hm1 : most ≤ 9223372036854775807) :
    Calls Try.prog 5 #[.slice ao len c, .int .i64 most] w fun e w' => e = .returned (.bool true) ∧ Below w.heap.size w w' := by
  obtain ⟨hlen, hc1, hc2⟩ := hb.len
  have HBS := Lib.hid hb
  by_cases hs : len ≤ 1000
  · have gs : (len : Int) ≤ 1000 := by omega
    obtain ⟨n, f, r, hRR⟩ : ∃ n f r, rnum 18446744073709551615 bs = (n, f, r) := ⟨_, _, _, rfl⟩
    have hnm : ∀ eb w, Eye w eb bs 0 → Calls Try.prog 24 #[.pointer (some ⟨eb, 0, none⟩), .int .u64 18446744073709551615] w fun e w' => e = .returned (.int .u64 (n : Nat)) ∧ Took w w' eb r f := fun eb w he => by
      have h := eyeNum_any eb 18446744073709551615 bs w he
      unfold NumDone at h
      rw [hRR] at h
      exact h
    have htx : ∀ eb w, Eye w eb bs 0 → Calls Try.prog 23 #[.pointer (some ⟨eb, 0, none⟩), .int .i64 most] w fun e w' => TextDone w w' eb most (n, f, r) e := fun eb w he => by
      have h := eyeText_any eb bs most w he hm0 hm1
      rw [hRR] at h
      exact h
    have hR2 : f = 0 → bs = Lib.uvarint n ++ r ∧ n < 18446744073709551616 := fun e => by
      subst e
      have := rnum_back _ _ _ _ hRR
      exact ⟨this.1, this.2.1⟩
    have HR2 := Lib.hid hR2
    have HNM := fun eb w he => Lib.hid (hnm eb w he)
    have HTX := fun eb w he => Lib.hid (htx eb w he)
    clear hnm htx hR2 hRR hb hlen
    obtain ⟨eb, heb⟩ : ∃ eb, eb = w.heap.size := ⟨_, rfl⟩
    have HEB := Lib.hid heb
    clear heb
    by_cases hf : f = 0
    · subst hf
      obtain ⟨e1, e2⟩ := HR2.out rfl
      have hul := Lib.uvarint_length64 e2
      have htk : bs.take (Lib.uvarint n).length = Lib.uvarint n := by rw [e1]; simp
      have hll : len = (Lib.uvarint n).length + r.length := by rw [HBS.out.len.1, e1, List.length_append]
      have HTK := Lib.hid htk
      generalize hm : (Lib.uvarint n).length = m at *
      have HLL := Lib.hid hll
      have HM := Lib.hid hm
      have HE := Lib.hid (⟨e1, e2⟩ : _ ∧ _)
      clear e1 htk hm hll
      go_enter Try.func5, Try.ntmps5
      go_wp2_with fail
      refine (look_any bs _ _ eb HEB.out (by rw [HEB.out]; exact HBS.out)).mono ?_
      rintro e w1 ⟨rfl, hk1⟩
      go_wp2_with fail
      refine (HNM eb _ hk1.1).out.mono ?_
      rintro e w2 ⟨rfl, hk2⟩
      go_wp2_with fail
      refine (fault_any eb 0 r _ hk2.1).mono ?_
      rintro e w3 ⟨rfl, rfl⟩
      have hb2 : Below w.heap.size w w2 := by
        have h := hk1.2.trans hk2.2
        exact ⟨h.os, h.tape, h.output, h.size, fun k hk => h.block k hk (by have := HEB.out; omega)⟩
      have he2 := Lib.hid hk2.1
      have hb2 := Lib.hid hb2
      have hp0 := Lib.hid (pen_new w2)
      clear hk1 hk2
      go_wp2_with fail
      refine (num_one w2.heap.size w2.heap.size n [] _ e2 (by simp) hp0.out (by simp) _ (by simp)).mono ?_
      rintro e w4 ⟨rfl, hd⟩
      have hb4 : Below w2.heap.size w2 w4 := ((Below.refl _ _).alloc (Nat.le_refl _) _).trans (hd.2.below hp0.out (by simp))
      have he4 := he2.out.keep hb4
      have hp4 : Pen w4 w2.heap.size w2.heap.size (Lib.uvarint n) := hd.1
      have hbw4 := hb2.out.trans (hb4.mono hb2.out.size)
      have hcv4 : ∀ w', Below w4.drew.heap.size w4.drew w' → (convert 25 9 (.slice ao m c)).run Try.prog w' = .ok (.string ⟨(Lib.uvarint n).toArray⟩) w' := fun w' h =>
        conv_take (HBS.out.below (hbw4.drew.trans (h.mono hbw4.size)) w.heap.size (Nat.le_refl _)) m _ HTK.out HM.out
      have hcv0 := hcv4 _ (Below.refl _ _)
      have HCV := Lib.hid hcv4
      have HBW4 := Lib.hid hbw4
      have hl4 : (Lib.uvarint n).length ≤ 70368744177664 := by rw [HM.out]; omega
      have HLN := Lib.hid hl4
      have hmc : m ≤ c := by have h1 := HLL.out; have h2 := HBS.out.len; omega
      have hmc2 : (m : Int) ≤ (c : Int) := by omega
      have hmn : (0 : Int) ≤ (m : Int) := by omega
      have hmt : ((m : Int)).toNat = m := by omega
      have hsub : (len : Int) - (r.length : Int) = (m : Int) := by have := HLL.out; omega
      have hsub2 : IntKind.i64.wrap (m : Int) = (m : Int) := by rw [IntKind.wrap_i64]; omega
      have hsub3 : wrap64 (m : Int) = (m : Int) := by unfold wrap64; omega
      clear hd hb4 hcv4 hbw4 hl4
      generalize hU : Lib.uvarint n = U at *
      have HU := Lib.hid hU
      clear hU
      go_wp2_with fail
      go_region_with (first | (go_at_call 19; refine (penBytes_any w2.heap.size w2.heap.size U _ HLN.out (by exact hp4)).mono ?_; rintro e w5 ⟨v5, rfl, hown5, hbel5⟩; have hcv5 := conv_own hown5; have hcv6 := HCV.out _ hbel5; have he5 := Eye.keep (w := w4.drew) he4 hbel5; obtain ⟨a5, c5, rfl⟩ := own_slice hown5) | (go_at_call 28; first | (refine (left_any eb 0 r _ (by exact he4)).mono ?_; rintro e w9 ⟨rfl, rfl⟩) | (refine (left_any eb 0 r _ (by exact he5)).mono ?_; rintro e w9 ⟨rfl, rfl⟩)))
      all_goals
        have HA := Lib.hid (HBW4.out.drew.trans (hbel5.mono HBW4.out.size))
        have hU := HU.out
        subst hU
        clear hbel5 he5 hcv5 hcv6 hown5 he4 hp4 hcv0 HCV HLN HTK HM HLL HE hmc hmc2 hmn hmt hsub hsub2 hsub3 he2 hp0 hb2 hul
        go_wp2_with fail
        refine (look_any bs _ _ _ rfl (HBS.out.below HA.out _ HA.out.size)).mono ?_
        rintro e w6 ⟨rfl, hk6⟩
        have hb6 := HA.out.trans (ew_below hk6.2 HA.out.size HA.out.size)
        go_wp2_with fail
        refine (HTX _ _ hk6.1).out.mono ?_
        rintro e w7 ⟨x, f7, left, rfl, hk7, hor⟩
        have HB7 := Lib.hid (hb6.trans (ew_below hk7.2 HA.out.size hb6.size))
        have he7 := hk7.1
        have HEB7 := Lib.hid (Nat.lt_of_lt_of_le (lt_of_eye hk6.1) hk7.2.size)
        clear hb6 hk6 hk7
        rcases hor with ⟨rfl, hf0, h1, h2, rfl, rfl⟩ | ⟨hf7, _⟩
        · simp only at hf0 h1 h2
          obtain ⟨e1, e2⟩ := HR2.out hf0
          generalize hx : List.take n r = x at *
          generalize hlf : List.drop n r = lf at *
          have hxl : x.length = n := by rw [← hx, List.length_take]; omega
          have hbs : bs = (Lib.uvarint n ++ x) ++ lf := by rw [e1, ← hx, ← hlf, List.append_assoc, List.take_append_drop]
          have hul7 := Lib.uvarint_length64 e2
          obtain ⟨V, hV⟩ : ∃ V, V = Lib.uvarint n ++ x := ⟨_, rfl⟩
          rw [← hV] at hbs
          have hl7 : len = V.length + lf.length := by rw [HBS.out.len.1, hbs, List.length_append]
          have htk7 : bs.take V.length = V := by rw [hbs]; simp
          have hnl : n ≤ 1000 := by have : V.length = (Lib.uvarint n).length + n := by rw [hV, List.length_append, hxl]
                                    omega
          have hXs : (⟨x.toArray⟩ : ByteArray).size = n := by rw [← hxl]; simp [ByteArray.size]
          have hXd : (⟨x.toArray⟩ : ByteArray).data.toList = x := by simp
          generalize (⟨x.toArray⟩ : ByteArray) = X at *
          have hVX : ([] : List UInt8) ++ (Lib.uvarint X.size ++ X.data.toList) = V := by rw [hXs, hXd, hV]; rfl
          have HVX := Lib.hid hVX
          have HXS := Lib.hid hXs
          have gX : (X.size : Int) ≤ most := by rw [hXs]; exact h1
          have hgd : decide (most < (X.size : Int)) = false := by simp; omega
          have HTK7 := Lib.hid htk7
          have HNL := Lib.hid hnl
          have HL7 := Lib.hid hl7
          obtain ⟨m7, hm7⟩ : ∃ m7, m7 = V.length := ⟨_, rfl⟩
          have HM7 := Lib.hid hm7
          clear e1 e2 hx hlf hxl hbs hul7 hV hl7 htk7 hnl hXs hXd hVX hm7 h1 h2 hf0
          have hp7 := Lib.hid (pen_new w7)
          go_wp2_with fail
          refine (fault_any _ 0 lf _ he7).mono ?_
          rintro e w8 ⟨rfl, rfl⟩
          go_wp2_with fail
          refine (penText_any w7.heap.size w7.heap.size X [] _ (by have := HXS.out; have := HNL.out; omega) (by simp) hp7.out (by simp)).mono ?_
          rintro e w8 ⟨rfl, hd7⟩
          have hb8 : Below w7.heap.size w7 w8 := ((Below.refl _ _).alloc (Nat.le_refl _) _).trans (hd7.2.below hp7.out (by simp))
          have he8 := he7.keep hb8
          have hp8 : Pen w8 w7.heap.size w7.heap.size V := HVX.out ▸ hd7.1
          have hbw8 := HB7.out.trans (hb8.mono HB7.out.size)
          have hcv8 : ∀ w', Below w8.drew.heap.size w8.drew w' → (convert 25 9 (.slice ao m7 c)).run Try.prog w' = .ok (.string ⟨V.toArray⟩) w' := fun w' h =>
            conv_take (HBS.out.below (hbw8.drew.trans (h.mono hbw8.size)) w.heap.size (Nat.le_refl _)) m7 _ (by rw [HM7.out]; exact HTK7.out) HM7.out.symm
          have hcv80 := hcv8 _ (Below.refl _ _)
          have HCV8 := Lib.hid hcv8
          have HBW8 := Lib.hid hbw8
          have HLN8 := Lib.hid (show V.length ≤ 70368744177664 by have := HL7.out; omega)
          have hmc7 : m7 ≤ c := by have h1 := HL7.out; have h2 := HBS.out.len; have h3 := HM7.out; omega
          have hmc72 : (m7 : Int) ≤ (c : Int) := by omega
          have hmn7 : (0 : Int) ≤ (m7 : Int) := by omega
          have hmt7 : ((m7 : Int)).toNat = m7 := by omega
          have hsub7 : (len : Int) - (lf.length : Int) = (m7 : Int) := by have h1 := HL7.out; have h3 := HM7.out; omega
          have hsub72 : IntKind.i64.wrap (m7 : Int) = (m7 : Int) := by rw [IntKind.wrap_i64]; omega
          have hsub73 : wrap64 (m7 : Int) = (m7 : Int) := by unfold wrap64; omega
          clear hd7 hb8 hcv8 hbw8 he7
          go_wp2_with fail
          have hS : ∀ w', Below w8.drew.heap.size w8.drew w' → Pen w' w7.heap.size w7.heap.size V ∧ Eye w' w5.heap.size lf 0 ∧ (convert 25 9 (.slice ao m7 c)).run Try.prog w' = .ok (.string ⟨V.toArray⟩) w' ∧ Below w8.drew.heap.size w8.drew w' := fun w' h =>
            ⟨Pen.keep (w := w8.drew) hp8 fun k hk => h.block k (by rcases hk with rfl | hk; exact hp8.lt; exact (hp8.row k hk).2.1), Eye.keep (w := w8.drew) he8 h, HCV8.out w' h, h⟩
          have HS := Lib.hid hS
          clear hS hp8 he8 hcv80
          go_region_held_law (fun w' => Pen w' w7.heap.size w7.heap.size V ∧ Eye w' w5.heap.size lf 0 ∧ (convert 25 9 (.slice ao m7 c)).run Try.prog w' = .ok (.string ⟨V.toArray⟩) w' ∧ Below w8.drew.heap.size w8.drew w')
            (first | exact HS.out _ (Below.refl _ _) | exact HS.out _ h9 | assumption)
            (first | (go_at_call 28; refine (left_any _ 0 lf _ (And.left (And.right (by assumption)))).mono ?_; rintro e w9 ⟨rfl, rfl⟩) | (go_at_call 19; refine (penBytes_any w7.heap.size w7.heap.size V _ HLN8.out (And.left (by assumption))).mono ?_; rintro e w5 ⟨v5, rfl, hown5, hbel5⟩; have hcv5 := conv_own hown5; have h9 : Below w8.drew.heap.size w8.drew w5 := below_on (by assumption) hbel5; obtain ⟨a5, c5, rfl⟩ := own_slice hown5))
          all_goals
            have hb9 := HBW8.out.drew.trans (Below.mono (w := w8.drew) h9 HBW8.out.size)
            clear hbel5
            go_wp2_with fail
            refine (lives01 _).mono ?_
            rintro e w9 ⟨rfl, hb10⟩
            go_wp2
            go_ret
            exact ⟨rfl, hb9.trans (hb10.mono hb9.size)⟩
        · have hd7 : (f7 == 0) = false := by simpa using hf7
          clear hf7
          go_wp2_with fail
          refine (fault_any _ f7 left _ he7).mono ?_
          rintro e w8 ⟨rfl, rfl⟩
          have hb9 := HB7.out
          clear he7
          go_wp2_with fail
          refine (lives01 _).mono ?_
          rintro e w9 ⟨rfl, hb10⟩
          go_wp2
          go_ret
          exact ⟨rfl, hb9.trans (hb10.mono hb9.size)⟩
    · have hfd : (f == 0) = false := by simpa using hf
      have HF := Lib.hid hf
      clear hf
      go_enter Try.func5, Try.ntmps5
      go_wp2_with fail
      refine (look_any bs _ _ eb HEB.out (by rw [HEB.out]; exact HBS.out)).mono ?_
      rintro e w1 ⟨rfl, hk1⟩
      go_wp2_with fail
      refine (HNM eb _ hk1.1).out.mono ?_
      rintro e w2 ⟨rfl, hk2⟩
      go_wp2_with fail
      refine (fault_any eb f r _ hk2.1).mono ?_
      rintro e w3 ⟨rfl, rfl⟩
      have hb2 : Below w.heap.size w w2 := by
        have h := hk1.2.trans hk2.2
        exact ⟨h.os, h.tape, h.output, h.size, fun k hk => h.block k hk (by have := HEB.out; omega)⟩
      have HA := Lib.hid hb2
      clear hk1 hk2 hb2
      go_wp2_with fail
      refine (look_any bs _ _ _ rfl (HBS.out.below HA.out _ HA.out.size)).mono ?_
      rintro e w6 ⟨rfl, hk6⟩
      have hb6 := HA.out.trans (ew_below hk6.2 HA.out.size HA.out.size)
      go_wp2_with fail
      refine (HTX _ _ hk6.1).out.mono ?_
      rintro e w7 ⟨x, f7, left, rfl, hk7, hor⟩
      have HB7 := Lib.hid (hb6.trans (ew_below hk7.2 HA.out.size hb6.size))
      have he7 := hk7.1
      have HEB7 := Lib.hid (Nat.lt_of_lt_of_le (lt_of_eye hk6.1) hk7.2.size)
      clear hb6 hk6 hk7
      rcases hor with ⟨rfl, hf0, h1, h2, rfl, rfl⟩ | ⟨hf7, _⟩
      · simp only at hf0 h1 h2
        obtain ⟨e1, e2⟩ := HR2.out hf0
        generalize hx : List.take n r = x at *
        generalize hlf : List.drop n r = lf at *
        have hxl : x.length = n := by rw [← hx, List.length_take]; omega
        have hbs : bs = (Lib.uvarint n ++ x) ++ lf := by rw [e1, ← hx, ← hlf, List.append_assoc, List.take_append_drop]
        have hul7 := Lib.uvarint_length64 e2
        obtain ⟨V, hV⟩ : ∃ V, V = Lib.uvarint n ++ x := ⟨_, rfl⟩
        rw [← hV] at hbs
        have hl7 : len = V.length + lf.length := by rw [HBS.out.len.1, hbs, List.length_append]
        have htk7 : bs.take V.length = V := by rw [hbs]; simp
        have hnl : n ≤ 1000 := by have : V.length = (Lib.uvarint n).length + n := by rw [hV, List.length_append, hxl]
                                  omega
        have hXs : (⟨x.toArray⟩ : ByteArray).size = n := by rw [← hxl]; simp [ByteArray.size]
        have hXd : (⟨x.toArray⟩ : ByteArray).data.toList = x := by simp
        generalize (⟨x.toArray⟩ : ByteArray) = X at *
        have hVX : ([] : List UInt8) ++ (Lib.uvarint X.size ++ X.data.toList) = V := by rw [hXs, hXd, hV]; rfl
        have HVX := Lib.hid hVX
        have HXS := Lib.hid hXs
        have gX : (X.size : Int) ≤ most := by rw [hXs]; exact h1
        have hgd : decide (most < (X.size : Int)) = false := by simp; omega
        have HTK7 := Lib.hid htk7
        have HNL := Lib.hid hnl
        have HL7 := Lib.hid hl7
        obtain ⟨m7, hm7⟩ : ∃ m7, m7 = V.length := ⟨_, rfl⟩
        have HM7 := Lib.hid hm7
        clear e1 e2 hx hlf hxl hbs hul7 hV hl7 htk7 hnl hXs hXd hVX hm7 h1 h2 hf0
        have hp7 := Lib.hid (pen_new w7)
        go_wp2_with fail
        refine (fault_any _ 0 lf _ he7).mono ?_
        rintro e w8 ⟨rfl, rfl⟩
        go_wp2_with fail
        refine (penText_any w7.heap.size w7.heap.size X [] _ (by have := HXS.out; have := HNL.out; omega) (by simp) hp7.out (by simp)).mono ?_
        rintro e w8 ⟨rfl, hd7⟩
        have hb8 : Below w7.heap.size w7 w8 := ((Below.refl _ _).alloc (Nat.le_refl _) _).trans (hd7.2.below hp7.out (by simp))
        have he8 := he7.keep hb8
        have hp8 : Pen w8 w7.heap.size w7.heap.size V := HVX.out ▸ hd7.1
        have hbw8 := HB7.out.trans (hb8.mono HB7.out.size)
        have hcv8 : ∀ w', Below w8.drew.heap.size w8.drew w' → (convert 25 9 (.slice ao m7 c)).run Try.prog w' = .ok (.string ⟨V.toArray⟩) w' := fun w' h =>
          conv_take (HBS.out.below (hbw8.drew.trans (h.mono hbw8.size)) w.heap.size (Nat.le_refl _)) m7 _ (by rw [HM7.out]; exact HTK7.out) HM7.out.symm
        have hcv80 := hcv8 _ (Below.refl _ _)
        have HCV8 := Lib.hid hcv8
        have HBW8 := Lib.hid hbw8
        have HLN8 := Lib.hid (show V.length ≤ 70368744177664 by have := HL7.out; omega)
        have hmc7 : m7 ≤ c := by have h1 := HL7.out; have h2 := HBS.out.len; have h3 := HM7.out; omega
        have hmc72 : (m7 : Int) ≤ (c : Int) := by omega
        have hmn7 : (0 : Int) ≤ (m7 : Int) := by omega
        have hmt7 : ((m7 : Int)).toNat = m7 := by omega
        have hsub7 : (len : Int) - (lf.length : Int) = (m7 : Int) := by have h1 := HL7.out; have h3 := HM7.out; omega
        have hsub72 : IntKind.i64.wrap (m7 : Int) = (m7 : Int) := by rw [IntKind.wrap_i64]; omega
        have hsub73 : wrap64 (m7 : Int) = (m7 : Int) := by unfold wrap64; omega
        clear hd7 hb8 hcv8 hbw8 he7
        go_wp2_with fail
        have hS : ∀ w', Below w8.drew.heap.size w8.drew w' → Pen w' w7.heap.size w7.heap.size V ∧ Eye w' w2.heap.size lf 0 ∧ (convert 25 9 (.slice ao m7 c)).run Try.prog w' = .ok (.string ⟨V.toArray⟩) w' ∧ Below w8.drew.heap.size w8.drew w' := fun w' h =>
          ⟨Pen.keep (w := w8.drew) hp8 fun k hk => h.block k (by rcases hk with rfl | hk; exact hp8.lt; exact (hp8.row k hk).2.1), Eye.keep (w := w8.drew) he8 h, HCV8.out w' h, h⟩
        have HS := Lib.hid hS
        clear hS hp8 he8 hcv80
        go_region_held_law (fun w' => Pen w' w7.heap.size w7.heap.size V ∧ Eye w' w2.heap.size lf 0 ∧ (convert 25 9 (.slice ao m7 c)).run Try.prog w' = .ok (.string ⟨V.toArray⟩) w' ∧ Below w8.drew.heap.size w8.drew w')
          (first | exact HS.out _ (Below.refl _ _) | exact HS.out _ h9 | assumption)
          (first | (go_at_call 28; refine (left_any _ 0 lf _ (And.left (And.right (by assumption)))).mono ?_; rintro e w9 ⟨rfl, rfl⟩) | (go_at_call 19; refine (penBytes_any w7.heap.size w7.heap.size V _ HLN8.out (And.left (by assumption))).mono ?_; rintro e w5 ⟨v5, rfl, hown5, hbel5⟩; have hcv5 := conv_own hown5; have h9 : Below w8.drew.heap.size w8.drew w5 := below_on (by assumption) hbel5; obtain ⟨a5, c5, rfl⟩ := own_slice hown5))
        all_goals
          have hb9 := HBW8.out.drew.trans (Below.mono (w := w8.drew) h9 HBW8.out.size)
          clear hbel5
          go_wp2_with fail
          refine (lives01 _).mono ?_
          rintro e w9 ⟨rfl, hb10⟩
          go_wp2
          go_ret
          exact ⟨rfl, hb9.trans (hb10.mono hb9.size)⟩
      · have hd7 : (f7 == 0) = false := by simpa using hf7
        clear hf7
        go_wp2_with fail
        refine (fault_any _ f7 left _ he7).mono ?_
        rintro e w8 ⟨rfl, rfl⟩
        have hb9 := HB7.out
        clear he7
        go_wp2_with fail
        refine (lives01 _).mono ?_
        rintro e w9 ⟨rfl, hb10⟩
        go_wp2
        go_ret
        exact ⟨rfl, hb9.trans (hb10.mono hb9.size)⟩
  · have gs : (1000 : Int) < len := by omega
    go_enter Try.func5, Try.ntmps5
    go_wp2_with fail
    refine (lives01 _).mono ?_
    rintro e w1 ⟨rfl, hb1⟩
    go_wp2
    go_ret
    exact ⟨rfl, hb1⟩
end Go.Proofs.Ytajheohdhiojcaa
