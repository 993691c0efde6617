/-
  The walk of the law of so many timers, not one more.
-/
import Derived.Test.YtjkkoojgdnoecaaYC
import Derived.Test.YtjkkoojgdnoecaaBits
namespace Go.Proofs.Ytjkkoojgdnoecaa.Tim
theorem ins_last (y : T) : ∀ S : List T, (∀ x ∈ S, ¬tl y x) → ins y S = S ++ [y]
  | [], _ => rfl
  | x :: r, h => by
    unfold ins
    rw [if_neg (h x (List.mem_cons_self ..)), ins_last y r fun z hz => h z (List.mem_cons_of_mem _ hz)]
    rfl
theorem ins_first (y : T) (S : List T) (h : ∀ x ∈ S, tl y x) : ins y S = y :: S := by
  cases S with
  | nil => rfl
  | cons x r =>
    unfold ins
    rw [if_pos (h x (List.mem_cons_self ..))]
/-- The first n timers, a tick apart. -/
def upto (n : Nat) : List T := (List.range n).map fun (i : Nat) => ((i : Int), 1000 + (i : Int))
theorem upto_length (n : Nat) : (upto n).length = n := by simp [upto]
theorem upto_mem (n : Nat) (x : T) (h : x ∈ upto n) : ∃ i : Nat, i < n ∧ x = ((i : Int), 1000 + (i : Int)) := by
  simp only [upto, List.mem_map, List.mem_range] at h
  obtain ⟨i, hi, rfl⟩ := h
  exact ⟨i, hi, rfl⟩
theorem upto_succ (n : Nat) : upto (n + 1) = upto n ++ [((n : Int), 1000 + (n : Int))] := by simp [upto, List.range_succ]
theorem upto_has (n k : Nat) (h : k < n) : has (upto n) k = true := (has_iff _ _).2 ⟨((k : Int), 1000 + (k : Int)), by simp only [upto, List.mem_map, List.mem_range]; exact ⟨k, h, rfl⟩, rfl⟩
theorem upto_not (n : Nat) (k : Int) (h : (n : Int) ≤ k) : has (upto n) k = false := (has_false _ _).2 fun x hx => by
  obtain ⟨i, hi, rfl⟩ := upto_mem n x hx
  show (i : Int) ≠ k
  omega
theorem set_upto (n : Nat) (h : n < 256) : set (upto n) (n : Int) (1000 + (n : Int)) = (upto (n + 1), 0) := by
  unfold set
  rw [if_neg (by omega), if_neg (by rw [upto_not n _ (Int.le_refl _)]; simp), if_neg (by rw [upto_length]; omega), upto_succ, ins_last]
  intro x hx
  obtain ⟨i, hi, rfl⟩ := upto_mem n x hx
  simp only [tl]
  omega
theorem set_more (m : Nat) : set (upto 256) (256 + (m : Int)) 5 = (upto 256, 1102) := by
  unfold set
  rw [if_neg (by omega), if_neg (by rw [upto_not 256 _ (by omega)]; simp), if_pos (by rw [upto_length]; omega)]
theorem set_turn (k t : Nat) (hk : k < 256) (ht : t < 512) : ∃ D, set (upto 256) k t = (((k : Int), (t : Int)) :: D, 0) ∧ (((k : Int), (t : Int)) :: D).length = 256 := by
  have hids : ∀ n, (upto n).Pairwise (fun a b => a.1 ≠ b.1) := by
    intro n
    induction n with
    | zero => exact List.Pairwise.nil
    | succ n ih =>
      rw [upto_succ, List.pairwise_append]
      refine ⟨ih, List.pairwise_singleton .., fun a ha b hb => ?_⟩
      obtain ⟨i, hi, rfl⟩ := upto_mem n a ha
      rw [List.mem_singleton.1 hb]
      show (i : Int) ≠ (n : Int)
      omega
  have hm : ((k : Int), 1000 + (k : Int)) ∈ upto 256 := by simp only [upto, List.mem_map, List.mem_range]; exact ⟨k, hk, rfl⟩
  have hl := del_less _ (hids 256) hm
  refine ⟨del (upto 256) k, ?_, by rw [List.length_cons]; simp only at hl; rw [hl, upto_length]⟩
  unfold set
  rw [if_neg (by omega), if_pos (upto_has 256 k hk), ins_first]
  intro x hx
  obtain ⟨i, hi, rfl⟩ := upto_mem 256 x ((del_mem _ _ _).1 hx).1
  simp only [tl]
  omega
end Go.Proofs.Ytjkkoojgdnoecaa.Tim
namespace Go.Proofs.Ytjkkoojgdnoecaa.Y
open Go.RowKit
set_option maxRecDepth 100000 in
set_option maxHeartbeats 3200000 in
theorem walk_timerFull (x y : Int) (w : World) (_ : (Lit.int .i64 x).wf = true) (_ : (Lit.int .i64 y).wf = true) : Calls Try.prog 5 #[.int .i64 x, .int .i64 y] w fun e w' => e = .returned (.bool true) ∧ Below w.heap.size w w' := by
  obtain ⟨k, e1, hk⟩ := low_255 x
  obtain ⟨t, e2, ht⟩ := low_511 y
  obtain ⟨D, hD, hDl⟩ := Tim.set_turn k t hk ht
  have HD := Lib.hid hD
  have HDL := Lib.hid hDl
  clear hD hDl
  go_enter Try.func5, Try.ntmps5
  go_wp2_with fail
  refine (awake_any _).mono ?_
  rintro e wa ⟨rfl, hba⟩
  have BA := Lib.hid hba
  clear hba
  go_wp2_with fail
  refine (t_new w wa BA.out).mono ?_
  rintro e w1 ⟨B, v1, rfl, h1, _, _⟩
  have H1 := Lib.hid h1
  clear h1
  go_wp2_with fail
  go_loopw [6, 7] (fun s6 _ wr => ∃ (n : Nat) (v : Value), n ≤ 256 ∧ s6 = .int .i64 (n : Int) ∧ In w B v wr (Tim.upto n)) (fun s6 _ _ => 256 - (intOf s6).toNat)
  case atStart => exact ⟨0, v1, by omega, rfl, H1.out⟩
  case round =>
    obtain ⟨n, v, hn, rfl, hin⟩ := hrel
    have HI := Lib.hid hin
    clear hin
    by_cases hlt : n < 256
    · have HS := Lib.hid (t_set HI.out (Tim.set_upto n hlt))
      go_wp2_with (first | (go_at_call 9; refine HS.out.mono ?_; rintro e w2 ⟨rfl, v2, h2, _⟩; have H2 := Lib.hid h2; clear h2) | (go_at_call 10; refine (num_any _ _).mono ?_; rintro e w9 ⟨rfl, rfl⟩))
      go_roundw
      case rel => exact ⟨n + 1, v2, by omega, by go_num, H2.out⟩
      case measure => simp [intOf]; omega
    · obtain rfl : n = 256 := by omega
      have HS := Lib.hid (t_set HI.out (Tim.set_more k))
      clear hlt hn
      go_wp2_with fail
      refine HS.out.mono ?_
      rintro e w2 ⟨rfl, v2, h2, _⟩
      have H2 := Lib.hid h2
      clear h2 HS HI
      go_wp2_with fail
      refine (t_set H2.out HD.out).mono ?_
      rintro e w3 ⟨rfl, v3, h3, _⟩
      have H3 := Lib.hid h3
      clear h3
      go_wp2_with fail
      refine (t_next H3.out (a := (k : Int)) (b := (t : Int)) (r := 0) rfl).mono ?_
      rintro e w4 ⟨rfl, h4, _⟩
      have H4 := Lib.hid h4
      clear h4
      go_wp2_with (first | (go_at_call 10; refine (num_any _ _).mono ?_; rintro e w9 ⟨rfl, rfl⟩) | (go_at_call 18; refine (t_len H4.out HDL.out).mono ?_; rintro e w6 ⟨rfl, rfl⟩))
      go_ret
      exact ⟨rfl, H4.out.bel⟩
end Go.Proofs.Ytjkkoojgdnoecaa.Y
