/- bowerlaw12.lives: the chapter's example. No condition. -/
import Derived.Test.YtjojfkddgdpnlaaInnerPlaces
namespace Go.Proofs.Ytjojfkddgdpnlaa
open Go.RowKit

def nodO : Nod := ⟨1, -1, ⟨#[]⟩, ⟨#[]⟩, true, [⟨#[]⟩, ⟨#[109]⟩], [], [3, 4]⟩
def nodM : Nod := ⟨1, -1, ⟨#[]⟩, ⟨#[]⟩, true, [⟨#[]⟩, ⟨#[109]⟩, ⟨#[116]⟩], [], [3, 4, 5]⟩
theorem nodM_rises : Rises nodM.ks := by
  intro i hi
  have h : i + 1 < 3 := hi
  match i, h with
  | 0, _ => show _ = true; kernel_rfl
  | 1, _ => show _ = true; kernel_rfl
theorem nodO_rises : Rises nodO.ks := by
  intro i hi
  have h : i + 1 < 2 := hi
  match i, h with
  | 0, _ => show _ = true; kernel_rfl
theorem nodO_sound : nodO.Sound 64 := by
  refine ⟨⟨by show (0 : Int) ≤ 1; omega, by show (1 : Int) < 14; omega⟩, ⟨by show (0 : Nat) ≤ 64; omega, fun _ => ⟨rfl, rfl⟩, fun h => (by cases h)⟩, ⟨by show ((2 : Nat) : Int) ≤ 64; omega, nodO_rises, fun i hi => ?_⟩, fun h => absurd (show (1 : Int) = 0 from h) (by omega), fun _ => ⟨rfl, by show (2 : Nat) ≠ 0; omega, rfl, rfl, fun i h0 hi => ?_, fun i hi => ?_⟩⟩
  · have h : i < 2 := hi
    match i, h with
    | 0, _ => show _ = true; kernel_rfl
    | 1, _ => show _ = true; kernel_rfl
  · have h : i < 2 := hi
    match i, h0, h with
    | 1, _, _ => show _ = true; kernel_rfl
  · have h : i < 2 := hi
    match i, h with
    | 0, _ => exact ⟨by kernel_rfl, fun j hj => by omega⟩
    | 1, _ =>
      refine ⟨by kernel_rfl, fun j hj => ?_⟩
      match j, hj with
      | 0, _ => show (3 : Int) ≠ 4; omega
theorem nodM_sound : nodM.Sound 4 := by
  refine ⟨⟨by show (0 : Int) ≤ 1; omega, by show (1 : Int) < 14; omega⟩, ⟨by show (0 : Nat) ≤ 64; omega, fun _ => ⟨rfl, rfl⟩, fun h => (by cases h)⟩, ⟨by show ((3 : Nat) : Int) ≤ 4; omega, nodM_rises, fun i hi => ?_⟩, fun h => absurd (show (1 : Int) = 0 from h) (by omega), fun _ => ⟨rfl, by show (3 : Nat) ≠ 0; omega, rfl, rfl, fun i h0 hi => ?_, fun i hi => ?_⟩⟩
  · have h : i < 3 := hi
    match i, h with
    | 0, _ => show _ = true; kernel_rfl
    | 1, _ => show _ = true; kernel_rfl
    | 2, _ => show _ = true; kernel_rfl
  · have h : i < 3 := hi
    match i, h0, h with
    | 1, _, _ => show _ = true; kernel_rfl
    | 2, _, _ => show _ = true; kernel_rfl
  · have h : i < 3 := hi
    match i, h with
    | 0, _ => exact ⟨by kernel_rfl, fun j hj => by omega⟩
    | 1, _ =>
      refine ⟨by kernel_rfl, fun j hj => ?_⟩
      match j, hj with
      | 0, _ => show (3 : Int) ≠ 4; omega
    | 2, _ =>
      refine ⟨by kernel_rfl, fun j hj => ?_⟩
      match j, hj with
      | 0, _ => show (3 : Int) ≠ 5; omega
      | 1, _ => show (4 : Int) ≠ 5; omega
theorem nodM_sound64 : nodM.Sound 64 := by
  have h := nodM_sound
  exact ⟨h.level, h.range, ⟨by show ((3 : Nat) : Int) ≤ 64; omega, h.keys.rise, h.keys.inn⟩, h.entries⟩
theorem nodO_inner : nodO.Inner := ⟨by show (0 : Int) < 1; omega, nodO_sound⟩
theorem nodO_post : nodO.post ⟨#[116]⟩ 5 = nodM := by kernel_rfl
theorem nodM_floor (a : Nat) (h : Edge nodM.ks.length a (pFloor nodM.ks ⟨#[122]⟩)) : a = 2 + 1 := by
  refine h.one ⟨Nat.le_refl 3, fun i hi => ?_, fun i h1 h2 => absurd (show i < 3 from h2) (by omega)⟩
  match i, hi with
  | 0, _ => show _ = false; kernel_rfl
  | 1, _ => show _ = false; kernel_rfl
  | 2, _ => show _ = false; kernel_rfl
theorem nodM_first {a : Int} (h : FirstAt 3 nodM.cs 4 a) : a = 1 := by
  rcases h with ⟨i, rfl, hi, he, hn⟩ | ⟨_, hn⟩
  · match i, hi with
    | 0, _ => exact absurd (show (3 : Int) = 4 from he) (by omega)
    | 1, _ => rfl
    | 2, _ => exact absurd (show (4 : Int) = 4 from rfl) (hn 1 (by omega))
  · exact absurd (show (4 : Int) = 4 from rfl) (hn 1 (by omega))
theorem small_keys (n : Nod) (h : n.ks.all (fun x => decide (x.size ≤ 1)) = true) : ∀ x ∈ n.ks, x.size ≤ 140737488355328 := by
  intro x hx
  have := List.all_eq_true.1 h x hx
  have := of_decide_eq_true this
  omega

theorem lover (w : World) : Calls Try.prog 56 #[.int .i64 1, .int .i64 3, .string ⟨#[109]⟩, .int .i64 4] w fun e w' => ∃ (ak av ac : Option Addr) (ck cv cc : Nat), e = .returned (.tuple #[.agg #[.int .i64 1, .string ⟨#[]⟩, .string ⟨#[]⟩, .bool true, .int .i64 (-1), .slice ak 2 ck, .slice av 0 cv, .slice ac 2 cc], .bool true]) ∧ NdAt w' ak av ac 2 ck 0 cv 2 cc nodO.ks nodO.vs nodO.cs ∧ Below w.heap.size w w' := by
  have hb : true = true ↔ (Nod.one 1 3).PostP ⟨#[109]⟩ 4 64 := ⟨fun _ => over_iff.2 ⟨by omega, nodO_sound⟩, fun _ => rfl⟩
  have h := over_of 1 3 4 ⟨#[109]⟩ true w (by decide) hb
  rw [over_or hb] at h
  refine h.mono ?_
  rintro e w' ⟨ak, av, ac, ck, cv, cc, rfl, hnd, hB, _⟩
  exact ⟨ak, av, ac, ck, cv, cc, rfl, hnd, hB⟩
theorem lpost (ak av ac : Option Addr) (ck cv cc : Nat) (w : World) (hN : NdAt w ak av ac 2 ck 0 cv 2 cc nodO.ks nodO.vs nodO.cs) : Calls Try.prog 13 #[.agg #[.int .i64 1, .string ⟨#[]⟩, .string ⟨#[]⟩, .bool true, .int .i64 (-1), .slice ak 2 ck, .slice av 0 cv, .slice ac 2 cc], .string ⟨#[116]⟩, .int .i64 5, .int .i64 4] w fun e w' => ∃ (ak av ac : Option Addr) (ck cv cc : Nat), e = .returned (.tuple #[.agg #[.int .i64 1, .string ⟨#[]⟩, .string ⟨#[]⟩, .bool true, .int .i64 (-1), .slice ak 3 ck, .slice av 0 cv, .slice ac 3 cc], .bool true]) ∧ NdAt w' ak av ac 3 ck 0 cv 3 cc nodM.ks nodM.vs nodM.cs ∧ Below w.heap.size w w' := by
  have hb : true = true ↔ nodO.PostP ⟨#[116]⟩ 5 4 := ⟨fun _ => ⟨nodO_inner, by omega, by rw [nodO_post]; exact nodM_sound⟩, fun _ => rfl⟩
  have h := post_of 1 (-1) ⟨#[]⟩ ⟨#[]⟩ true ak av ac ck cv cc nodO.ks nodO.vs nodO.cs ⟨#[116]⟩ 5 4 true w hN ⟨by decide, by decide, small_keys nodO (by kernel_rfl), ⟨by show (2 : Nat) ≤ _; omega, by show (0 : Nat) ≤ _; omega, by show (2 : Nat) ≤ _; omega⟩⟩ (by decide) hb
  rw [show Nod.post ⟨1, -1, ⟨#[]⟩, ⟨#[]⟩, true, nodO.ks, nodO.vs, nodO.cs⟩ ⟨#[116]⟩ 5 = nodM from nodO_post] at h
  refine Calls.mono (show Calls Try.prog 13 #[.agg #[.int .i64 1, .string ⟨#[]⟩, .string ⟨#[]⟩, .bool true, .int .i64 (-1), .slice ak 2 ck, .slice av 0 cv, .slice ac 2 cc], .string ⟨#[116]⟩, .int .i64 5, .int .i64 4] w fun e w' => GaveN w w' e true nodM from h) ?_
  rintro e w' ⟨ak, av, ac, ck, cv, cc, rfl, hnd, hB, _⟩
  exact ⟨ak, av, ac, ck, cv, cc, rfl, hnd, hB⟩
theorem lkid (ak av ac : Option Addr) (ck cv cc : Nat) (w : World) (hN : NdAt w ak av ac 3 ck 0 cv 3 cc nodM.ks nodM.vs nodM.cs) : Calls Try.prog 34 #[.agg #[.int .i64 1, .string ⟨#[]⟩, .string ⟨#[]⟩, .bool true, .int .i64 (-1), .slice ak 3 ck, .slice av 0 cv, .slice ac 3 cc], .string ⟨#[122]⟩] w fun e w' => e = .returned (.tuple #[.int .i64 5, .bool true]) ∧ Below w.heap.size w w' :=
  kid_yes 1 (-1) ⟨#[]⟩ ⟨#[]⟩ true ak av ac 3 ck 0 cv 3 cc nodM.ks nodM.vs nodM.cs ⟨#[122]⟩ 2 w hN (by omega) (by omega) (by decide) (small_keys nodM (by kernel_rfl)) (by omega) nodM_rises nodM_floor
theorem lplace (ak av ac : Option Addr) (ck cv cc : Nat) (w : World) (hN : NdAt w ak av ac 3 ck 0 cv 3 cc nodM.ks nodM.vs nodM.cs) : Calls Try.prog 19 #[.agg #[.int .i64 1, .string ⟨#[]⟩, .string ⟨#[]⟩, .bool true, .int .i64 (-1), .slice ak 3 ck, .slice av 0 cv, .slice ac 3 cc], .int .i64 4] w fun e w' => e = .returned (.tuple #[.int .i64 1, .bool true]) ∧ Below w.heap.size w w' := by
  refine (place_of 1 (-1) ⟨#[]⟩ ⟨#[]⟩ true ak av ac 3 ck 0 cv 3 cc nodM.ks nodM.vs nodM.cs 4 true w hN ⟨by decide, by decide, small_keys nodM (by kernel_rfl), by omega⟩ ⟨fun _ => ⟨by omega, nodM_sound64⟩, fun _ => rfl⟩).mono ?_
  rintro e w' ⟨a, ha, rfl, hB⟩
  have := nodM_first ha
  subst this
  exact ⟨rfl, hB⟩

set_option maxHeartbeats 4000000 in
set_option maxRecDepth 100000 in
theorem lives12_any (w : World) : Calls Try.prog 11 #[] w fun e w' => e = .returned (.bool true) ∧ Below w.heap.size w w' := by
  have HOV := Lib.hid lover
  have HPO := Lib.hid lpost
  have HKI := Lib.hid lkid
  have HPL := Lib.hid lplace
  go_enter Try.func11, Try.ntmps11
  go_wp2_with fail
  refine (HOV.out _).mono ?_
  rintro e w2 ⟨ak, av, ac, ck, cv, cc, rfl, hnd, hb⟩
  have hbx := boxed_below w2 (.cells #[.int .i64 1, .string ⟨#[]⟩, .string ⟨#[]⟩, .bool true, .int .i64 (-1), .slice ak 2 ck, .slice av 0 cv, .slice ac 2 cc] 26)
  have HN2 := Lib.hid (NB.new w2 #[.int .i64 1, .string ⟨#[]⟩, .string ⟨#[]⟩, .bool true, .int .i64 (-1), .slice ak 2 ck, .slice av 0 cv, .slice ac 2 cc])
  have HB2 := Lib.hid (hb.trans (hbx.mono hb.size))
  have HC2 := Lib.hid (HPO.out ak av ac ck cv cc _ (hnd.keep hbx))
  clear hnd hb hbx
  obtain ⟨q0, q1, q2, q3, q4, q5, q6, q7⟩ := HN2.out.cells
  go_wp2_with fail
  refine HC2.out.mono ?_
  rintro e w3 ⟨ak3, av3, ac3, ck3, cv3, cc3, rfl, hnd, hb⟩
  have hbx := boxed_below w3 (.cells #[.int .i64 1, .string ⟨#[]⟩, .string ⟨#[]⟩, .bool true, .int .i64 (-1), .slice ak3 3 ck3, .slice av3 0 cv3, .slice ac3 3 cc3] 26)
  have HN3 := Lib.hid (NB.new w3 #[.int .i64 1, .string ⟨#[]⟩, .string ⟨#[]⟩, .bool true, .int .i64 (-1), .slice ak3 3 ck3, .slice av3 0 cv3, .slice ac3 3 cc3])
  have HB23 := Lib.hid (hb.trans (hbx.mono hb.size))
  have HB3 := Lib.hid (HB2.out.trans (HB23.out.mono HB2.out.size))
  have HD3 := Lib.hid (hnd.keep hbx)
  clear hnd hb hbx q0 q1 q2 q3 q4 q5 q6 q7
  obtain ⟨q0, q1, q2, q3, q4, q5, q6, q7⟩ := HN3.out.cells
  go_wp2_with fail
  refine (HKI.out ak3 av3 ac3 ck3 cv3 cc3 _ HD3.out).mono ?_
  rintro e w4 ⟨rfl, hb4⟩
  have HB4 := Lib.hid hb4
  have HE4 := Lib.hid (HB3.out.trans (hb4.mono HB3.out.size))
  have HC4 := Lib.hid (HPL.out ak3 av3 ac3 ck3 cv3 cc3 _ (HD3.out.keep hb4))
  clear hb4 q0 q1 q2 q3 q4 q5 q6 q7
  obtain ⟨q0, q1, q2, q3, q4, q5, q6, q7⟩ := (HN3.out.below HB4.out).cells
  go_wp2_with fail
  refine HC4.out.mono ?_
  rintro e w5 ⟨rfl, hb5⟩
  have HE5 := Lib.hid (HE4.out.trans (hb5.mono HE4.out.size))
  have HX := Lib.hid (((HN2.out.below HB23.out).below HB4.out).below hb5)
  clear hb5 q0 q1 q2 q3 q4 q5 q6 q7
  obtain ⟨q0, q1, q2, q3, q4, q5, q6, q7⟩ := HX.out.cells
  go_wp2
  go_ret
  exact ⟨rfl, HE5.out⟩
end Go.Proofs.Ytjojfkddgdpnlaa
