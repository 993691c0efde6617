/-
  The walk of the law of texts between flags.
-/
import Derived.Test.YtpbmchgjjfaanaaV9
import Derived.Test.YtpbmchgjjfaanaaBulk
namespace Go.Proofs.Ytpbmchgjjfaanaa.Stf
def jn (ls : List (List UInt8)) : List UInt8 := ls.flatMap fun p => 126 :: put 0 p
def nw (ls : List (List UInt8)) : List (List UInt8) := (ls.map (put 0)).filter fun p => !p.isEmpty
theorem jn_snoc (ls : List (List UInt8)) (p : List UInt8) : jn (ls ++ [p]) = jn ls ++ ([126] ++ put 0 p) := by simp [jn]
theorem nw_snoc (ls : List (List UInt8)) (p : List UInt8) : nw (ls ++ [p]) = if put 0 p = [] then nw ls else nw ls ++ [put 0 p] := by
  unfold nw
  rw [List.map_append, List.filter_append]
  cases h : put 0 p <;> simp [h]
theorem nw_length (ls : List (List UInt8)) : (nw ls).length ≤ ls.length := by
  have := List.length_filter_le (fun p : List UInt8 => !p.isEmpty) (ls.map (put 0))
  simpa [nw] using this
theorem srun_join (A : List UInt8) (hA : 126 ∉ A) (n : Nat) : ∀ ls : List (List UInt8), ls.length = n → srun ((A ++ jn ls) ++ [126]) = (nw ls, true, []) := by
  induction n with
  | zero =>
    intro ls h
    obtain rfl := List.length_eq_zero_iff.1 h
    have e : srun (A ++ jn []) = ([], false, A) := by
      rw [show A ++ jn [] = [] ++ A by simp [jn], srun_noflag [] A hA]; rfl
    rw [srun_flag, e]
    rfl
  | succ n ih =>
    intro ls h
    have hne : ls ≠ [] := by rintro rfl; simp at h
    obtain ⟨init, p, rfl⟩ : ∃ init p, ls = init ++ [p] := ⟨ls.dropLast, ls.getLast hne, (List.dropLast_concat_getLast hne).symm⟩
    have hi := ih init (by simpa using h)
    have e : (A ++ jn (init ++ [p])) = ((A ++ jn init) ++ [126]) ++ put 0 p := by rw [jn_snoc]; simp
    rw [srun_flag, e, srun_noflag _ _ (put_noflag 0 p), hi, nw_snoc]
    by_cases hp : put 0 p = [] <;> simp [hp]
theorem split_join (A B : List UInt8) (hA : 126 ∉ A) (hB : 126 ∉ B) (ls : List (List UInt8)) : split (((A ++ jn ls) ++ [126]) ++ B) = (nw ls, B) := by
  rw [split, srun_noflag _ _ hB, srun_join A hA _ ls rfl]
  simp
end Go.Proofs.Ytpbmchgjjfaanaa.Stf
namespace Go.Proofs.Ytpbmchgjjfaanaa
open Go.RowKit
def datas (ss : List ByteArray) : List (List UInt8) := ss.map fun s => s.data.toList
theorem datas_take (ss : List ByteArray) (k : Nat) (h : k < ss.length) : datas (ss.take (k + 1)) = datas (ss.take k) ++ [ss[k].data.toList] := by
  rw [List.take_succ_eq_append_getElem h]; simp only [datas, List.map_append, List.map_cons, List.map_nil]
theorem jn_bound (ss : List ByteArray) (h : ∀ s ∈ ss, s.size ≤ 1048576) : (Stf.jn (datas ss)).length ≤ 2097153 * ss.length := by
  induction ss with
  | nil => simp [Stf.jn, datas]
  | cons s r ih =>
    have h1 := ih (fun x hx => h x (by simp [hx]))
    have h2 := (Stf.put_length 0 s.data.toList).2
    have h3 := h s (by simp)
    have e : Stf.jn (datas (s :: r)) = (126 :: Stf.put 0 s.data.toList) ++ Stf.jn (datas r) := by simp [Stf.jn, datas]
    have e2 : s.data.toList.length = s.size := by simp
    rw [e, List.length_append, List.length_cons, List.length_cons]
    omega
set_option maxHeartbeats 1600000 in
theorem joins_walk (p : Option Addr) (cap : Nat) (ss : List ByteArray) (lf ll : List UInt8) (w : World) (A : Nat → Addr)
    (hix : ∀ k, k < ss.length → ∀ W : World, (Instr.indexAt 27 (.slice p ss.length cap) (.int .i64 (k : Int))).run Try.prog W = .ok (.pointer (some (A k))) W)
    (hcell : ∀ k (h : k < ss.length), w.cell? (A k) = some (.string ss[k]))
    (hn : ss.length ≤ 1048576) (hs : ∀ s ∈ ss, s.size ≤ 1048576) (hf : lf.length ≤ 1048576) (hl : ll.length ≤ 1048576) :
    Calls Try.prog 5 #[.slice p ss.length cap, .string ⟨lf.toArray⟩, .string ⟨ll.toArray⟩] w fun e w' => e = .returned (.bool true) ∧ Below w.heap.size w w' := by
  have HI := Lib.hid hix
  have HC := Lib.hid hcell
  have HS := Lib.hid hs
  have P1 := Lib.hid fun w => put_list lf 0 w (by omega)
  have P2 := Lib.hid fun w => put_list ll 0 w (by omega)
  have NA := Lib.hid (Stf.put_noflag 0 lf)
  have NB := Lib.hid (Stf.put_noflag 0 ll)
  have hA := (Stf.put_length 0 lf).2
  have hB := (Stf.put_length 0 ll).2
  clear hix hcell hs
  generalize Stf.put 0 lf = F at *
  generalize Stf.put 0 ll = B at *
  go_enter Try.func5, Try.ntmps5
  go_wp2_with fail
  refine (awake_any _).mono ?_
  rintro e w0 ⟨rfl, hb0⟩
  have B0 := Lib.hid hb0
  clear hb0
  go_wp2_with fail
  refine (P1.out _).mono ?_
  rintro e w1 ⟨rfl, hb1⟩
  have B1 := Lib.hid (bel2 B0.out hb1)
  clear hb1
  go_wp2_with fail
  refine (P2.out _).mono ?_
  rintro e w2 ⟨rfl, hb2⟩
  have B2 := Lib.hid (bel2 B1.out hb2)
  clear hb2
  go_wp2_with fail
  go_loopw [9, 10, 11] (fun a v i wr => ∃ k : Nat, k ≤ ss.length ∧ k ≤ 10 ∧ i = .int .i64 k ∧ a = .string ⟨(F ++ Stf.jn (datas (ss.take k))).toArray⟩ ∧ OwnsT w wr v (Stf.nw (datas (ss.take k)))) (fun _ _ i _ => 10 - (intOf i).toNat)
  case atStart => exact ⟨0, by omega, by omega, rfl, by simp [Stf.jn, datas], ⟨World.ownsRow_nil _ _ _ _, B2.out⟩⟩
  case round =>
    obtain ⟨k, hk, hk10, rfl, rfl, ho⟩ := hrel
    have HO := Lib.hid ho
    clear ho
    have hj := jn_bound (ss.take k) (fun s h => HS.out s (List.mem_of_mem_take h))
    have htk : (ss.take k).length ≤ 10 := by rw [List.length_take]; omega
    by_cases hlt : k < ss.length ∧ k < 10
    · obtain ⟨h1, h2⟩ := hlt
      have hi := HI.out k h1
      have hc := HC.out k h1
      rw [← HO.out.2.cell (block_lt_of_cell hc)] at hc
      have P := Lib.hid fun w => put_any ss[k] 0 w (by have := HS.out ss[k] (by simp); omega)
      have hp := (Stf.put_length 0 ss[k].data.toList).2
      have hsz : ss[k].data.toList.length ≤ 1048576 := by have := HS.out ss[k] (by simp); simpa using this
      have HD := Lib.hid (datas_take ss k h1)
      have HJ := Lib.hid (Stf.jn_snoc (datas (ss.take k)) ss[k].data.toList)
      have HN := Lib.hid (Stf.nw_snoc (datas (ss.take k)) ss[k].data.toList)
      have hnl := Stf.nw_length (datas (ss.take k))
      have hdl : (datas (ss.take k)).length ≤ 10 := by simpa [datas] using htk
      generalize Stf.put 0 ss[k].data.toList = q at *
      generalize ss[k] = sk at *
      generalize A k = Ak at *
      have hSl : (F ++ Stf.jn (datas (ss.take k))).length ≤ 33554432 := by rw [List.length_append]; omega
      have HR1 : Hid (F ++ Stf.jn (datas (ss.take (k + 1))) = (F ++ Stf.jn (datas (ss.take k)) ++ [126]) ++ q) := Lib.hid (by rw [HD.out, HJ.out]; simp)
      have HR2 : Hid (Stf.nw (datas (ss.take (k + 1))) = if q = [] then Stf.nw (datas (ss.take k)) else Stf.nw (datas (ss.take k)) ++ [q]) := Lib.hid (by rw [HD.out, HN.out])
      generalize F ++ Stf.jn (datas (ss.take k)) = S at *
      clear HD HJ HN
      have e1 := cat S [126]
      obtain ⟨S1, hS1⟩ : ∃ S1, S1 = S ++ [126] := ⟨_, rfl⟩
      rw [← hS1] at e1
      have e2 := cat S1 q
      obtain ⟨S2, hS2⟩ : ∃ S2, S2 = S1 ++ q := ⟨_, rfl⟩
      rw [← hS2] at e2
      have hl1 : S1.length ≤ 1073741824 := by rw [hS1]; simp; omega
      have H1 := Lib.hid hS1
      have H2 := Lib.hid hS2
      clear hS1 hS2
      have hql : q.length ≤ 2097152 := by omega
      by_cases hq : q = []
      · have HQ : Hid (Stf.nw (datas (ss.take (k + 1))) = Stf.nw (datas (ss.take k))) := Lib.hid (by rw [HR2.out, if_pos hq])
        subst hq
        clear HR2
        go_wp2_with fail
        refine (P.out _).mono ?_
        rintro e w3 ⟨rfl, hb3⟩
        have HO3 := Lib.hid (HO.out.below hb3)
        clear hb3
        go_wp2_with fail
        go_roundw
        case rel => exact ⟨k + 1, by omega, by omega, by go_num, by rw [HR1.out, ← H1.out, ← H2.out], by rw [HQ.out]; exact HO3.out⟩
        case measure => simp [intOf]; omega
      · have HQ : Hid (Stf.nw (datas (ss.take (k + 1))) = Stf.nw (datas (ss.take k)) ++ [q]) := Lib.hid (by rw [HR2.out, if_neg hq])
        have qc : q.isEmpty = false := by simpa using hq
        clear HR2 hq
        go_wp2_with fail
        refine (P.out _).mono ?_
        rintro e w3 ⟨rfl, hb3⟩
        have HO3 := Lib.hid (HO.out.below hb3)
        clear hb3
        go_wp2_with (at_builtin; refine wp_pushT rfl _ _ rfl _ [q] HO3.out rfl rfl (by simp; omega) ?_)
        intro v' w4 ho4
        have HO4 := Lib.hid ho4
        clear ho4
        go_wp2_with fail
        go_roundw
        case rel => exact ⟨k + 1, by omega, by omega, by go_num, by rw [HR1.out, ← H1.out, ← H2.out], by rw [HQ.out]; exact HO4.out⟩
        case measure => simp [intOf]; omega
    · have hcl : (Stf.nw (datas (ss.take k))).length ≤ 1073741824 := by
        have hnl := Stf.nw_length (datas (ss.take k))
        have hdl : (datas (ss.take k)).length ≤ 10 := by simpa [datas] using htk
        omega
      have hSl : (F ++ Stf.jn (datas (ss.take k))).length ≤ 33554432 := by rw [List.length_append]; omega
      have HJ := Lib.hid (Stf.split_join F B NA.out NB.out (datas (ss.take k)))
      generalize F ++ Stf.jn (datas (ss.take k)) = S at *
      generalize Stf.nw (datas (ss.take k)) = N at *
      have e1 := cat S [126]
      obtain ⟨S1, hS1⟩ : ∃ S1, S1 = S ++ [126] := ⟨_, rfl⟩
      rw [← hS1] at e1
      have e2 := cat S1 B
      obtain ⟨S2, hS2⟩ : ∃ S2, S2 = S1 ++ B := ⟨_, rfl⟩
      rw [← hS2] at e2
      have hl1 : S1.length ≤ 1073741824 := by rw [hS1]; simp; omega
      have c := fun w => split_list S2 w (by rw [hS2, hS1]; simp; omega)
      unfold SplitPost at c
      rw [hS2, hS1, HJ.out, ← hS1, ← hS2] at c
      have C := Lib.hid c
      have qB : (B == B) = true := by simp
      clear hS1 hS2 c
      have hq : (k < ss.length ∧ 10 ≤ k) ∨ ss.length ≤ k := by omega
      clear hlt
      rcases hq with ⟨h1, h2⟩ | h1
      all_goals
        go_wp2_with fail
        refine (C.out _).mono ?_
        rintro e w3 ⟨v3, rfl, ho3⟩
        have HO3 := Lib.hid (HO.out.below ho3.2)
        have HP3 := Lib.hid ho3
        clear ho3
        go_wp2_with fail
        refine (same_yes _ _ N _ HP3.out.reads HO3.out.reads hcl).mono ?_
        rintro e w4 ⟨rfl, hb4⟩
        have B4 := Lib.hid (bel2 HO3.out.2 hb4)
        clear hb4
        go_wp2_with fail
        go_ret
        exact ⟨rfl, B4.out⟩
theorem walk_joins (v : Value) (ss : List ByteArray) (f l : ByteArray) (w : World) (hv : TextsIn w v ss) (hb : ss.length ≤ 1048576 ∧ ∀ s ∈ ss, s.size ≤ 1048576) (hf : f.size ≤ 1048576) (hl : l.size ≤ 1048576) :
    Calls Try.prog 5 #[v, .string f, .string l] w fun e w' => e = .returned (.bool true) ∧ Below w.heap.size w w' := by
  obtain ⟨lf, rfl⟩ : ∃ l : List UInt8, f = ⟨l.toArray⟩ := ⟨f.data.toList, by simp⟩
  obtain ⟨ll, rfl⟩ : ∃ l' : List UInt8, l = ⟨l'.toArray⟩ := ⟨l.data.toList, by simp⟩
  rw [sz] at hf hl
  rcases hv with ⟨rfl, rfl⟩ | ⟨a, cap, rfl, hc⟩
  · exact joins_walk none 0 [] lf ll w (fun _ => ⟨0, 0, none⟩) (fun k hk => absurd hk (by simp)) (fun k hk => absurd hk (by simp)) (by simp) (by simp) hf hl
  · refine joins_walk (some a) cap ss lf ll w (fun k => a.add k) (fun k hk W => index_at a _ cap k hk W) (fun k hk => ?_) hb.1 hb.2 hf hl
    rw [hc k hk]; simp [List.getD, hk]
end Go.Proofs.Ytpbmchgjjfaanaa
