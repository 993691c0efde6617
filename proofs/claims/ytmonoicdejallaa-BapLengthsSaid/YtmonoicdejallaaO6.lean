/-
  Contract of the document's own Unopts.
-/
import Derived.Test.YtmonoicdejallaaO5
import Derived.Deep.RegionLaw
namespace Go.Proofs.Ytmonoicdejallaa.O
open Go.RowKit
theorem cut_mid (s : ByteArray) (k n : Nat) (h : 2 ≤ n) : s.extract (k + 2) (k + n) = ⟨(((s.data.toList.drop k).take n).drop 2).toArray⟩ := by
  apply ByteArray.ext; apply Array.toList_inj.1
  simp only [ByteArray.data_extract, Array.toList_extract, List.extract_eq_take_drop]
  rw [List.drop_take, List.drop_drop, show k + n - (k + 2) = n - 2 by omega]
set_option maxHeartbeats 1600000 in
theorem runopts_walk (s : ByteArray) (w : World) (hm : s.size ≤ 2048) : Calls Try.prog 27 #[.string s] w (GetPost (Opt.get s.data.toList) w) := by
  have hm2 : s.data.toList.length ≤ 2048 := by simpa using hm
  have HS := Lib.hid (Opt.get_some s.data.toList hm2)
  have HN := Lib.hid (Opt.get_bad s.data.toList hm2)
  clear hm2
  go_enter Try.func27, Try.ntmps27
  go_wp2_with fail
  go_loopw [4, 5] (fun o i wr => ∃ (acc : List Opt.Op) (k : Nat), i = .int .i64 k ∧ k ≤ s.size ∧ OwnsO w wr o acc ∧ 2 * acc.length ≤ k ∧ Hid (Opt.parse s.data.toList = Opt.goes acc (s.data.toList.drop k))) (fun _ i _ => s.size - (intOf i).toNat)
  case atStart => exact ⟨[], 0, rfl, Nat.zero_le _, OwnsO.nil w, Nat.zero_le _, Lib.hid (Opt.goes_start _).symm⟩
  case round =>
    obtain ⟨acc, k, rfl, hk, ho, hl, HR⟩ := hrel
    have HO := Lib.hid ho
    clear ho
    have hdl : (s.data.toList.drop k).length = s.size - k := by rw [List.length_drop]; simp
    by_cases hlt : k < s.size
    · by_cases h1 : s.size ≤ k + 1
      · have HG : Hid (Opt.get s.data.toList = ([], 400)) := Lib.hid (HN.out (HR.out.trans (Opt.goes_one acc _ (by omega))))
        clear HS HN hdl
        go_wp2_with fail
        go_ret2
        exact ⟨_, by rw [HG.out]; rfl, by rw [HG.out]; exact ⟨World.ownsRow_nil _ _ _ _, HO.out.2⟩⟩
      · have h2 : 2 ≤ (s.data.toList.drop k).length := by omega
        have e0 : (s.data.toList.drop k)[0]'(by omega) = s[k] := by simp; rfl
        have e1 : (s.data.toList.drop k)[1]'(by omega) = s[k + 1]'(by omega) := by simp; rfl
        have hi0 : k < s.size := hlt
        have hi1 : k + 1 < s.size := by omega
        have hx2 := (s[k + 1]'(by omega)).toNat_lt
        have hy2 := (s[k]).toNat_lt
        by_cases h3 : (s[k + 1]'(by omega)).toNat < 2
        · have HG : Hid (Opt.get s.data.toList = ([], 400)) := Lib.hid (HN.out (HR.out.trans (Opt.goes_bad acc _ h2 (by rw [e1]; exact .inl h3))))
          clear HS HN hdl e0 e1
          go_wp2_with fail
          go_ret2
          exact ⟨_, by rw [HG.out]; rfl, by rw [HG.out]; exact ⟨World.ownsRow_nil _ _ _ _, HO.out.2⟩⟩
        · by_cases h4 : s.size - k < (s[k + 1]'(by omega)).toNat
          · have HG : Hid (Opt.get s.data.toList = ([], 400)) := Lib.hid (HN.out (HR.out.trans (Opt.goes_bad acc _ h2 (by rw [e1, hdl]; exact .inr h4))))
            have h5 : s.size < k + (s[k + 1]'(by omega)).toNat := by omega
            clear HS HN hdl e0 e1
            go_wp2_with fail
            go_ret2
            exact ⟨_, by rw [HG.out]; rfl, by rw [HG.out]; exact ⟨World.ownsRow_nil _ _ _ _, HO.out.2⟩⟩
          · have HG := HR.out.trans (Opt.goes_good acc _ h2 (by rw [e1]; omega) (by rw [e1, hdl]; omega))
            rw [e0, e1, List.drop_drop] at HG
            have HG := Lib.hid HG
            have hD := cut_mid s k (s[k + 1]'(by omega)).toNat (by omega)
            have hb5 : k + (s[k + 1]'(by omega)).toNat ≤ s.size := by omega
            have hb6 : 2 ≤ (s[k + 1]'(by omega)).toNat := by omega
            generalize hx : s[k + 1]'(by omega) = x at *
            generalize hy : s[k] = y at *
            obtain ⟨n, hn⟩ : ∃ n, n = x.toNat := ⟨_, rfl⟩
            obtain ⟨D, hDD⟩ : ∃ D, D = ((s.data.toList.drop k).take x.toNat).drop 2 := ⟨_, rfl⟩
            rw [← hDD] at HG hD
            have hwr := wrap64_nat x.toNat (by omega)
            have hwy := wrap64_nat y.toNat (by omega)
            clear HS HN hdl e0 e1 HR h3 h4 hDD
            go_wp2_with fail
            have HO2 := Lib.hid ((HO.out.below ((Below.refl wr.heap.size wr).alloc (Nat.le_refl _) (.cells #[.int .i64 (y.toNat : Int), .string ⟨D.toArray⟩] 46))).drew)
            have HL := Lib.hid (reads_lit wr [((y.toNat : Int), D)] #[.int .i64 (y.toNat : Int), .string ⟨D.toArray⟩] rfl).drew
            have e1 : IntKind.i64.wrap (y.toNat : Int) = (y.toNat : Int) := i64_wrap _ (by omega)
            have e2 : IntKind.i64.wrap ((k : Int) + 2) = (k : Int) + 2 := IntWalk.i64_in _ (by omega)
            have e3 : IntKind.i64.wrap ((k : Int) + (x.toNat : Int)) = (k : Int) + (x.toNat : Int) := IntWalk.i64_in _ (by omega)
            have e4 : ((k : Int) + 2).toNat = k + 2 := by omega
            have e5 : ((k : Int) + (x.toNat : Int)).toNat = k + x.toNat := by omega
            have e6 : (0 : Int) ≤ (k : Int) + 2 := by omega
            have e7 : (0 : Int) ≤ (k : Int) + (x.toNat : Int) := by omega
            have e8 : (k : Int) + 2 ≤ (k : Int) + (x.toNat : Int) := by omega
            have e9 : (k : Int) + (x.toNat : Int) ≤ (s.size : Int) := by omega
            go_region_law (refine step_catO rfl _ _ rfl acc [((y.toNat : Int), D)] HO2.out HL.out rfl rfl (by simp; omega) ?_; intro v' w2 ho2)
            all_goals
              have HO3 := Lib.hid ho2
              clear ho2 e1 e2 e3 e4 e5
              go_wp2_with fail
              go_roundw
              case rel => exact ⟨acc ++ [((y.toNat : Int), D)], k + x.toNat, by go_num, hb5, HO3.out, by simp; omega, HG⟩
              case measure => simp [intOf]; omega
    · obtain rfl : k = s.size := by omega
      have HG : Hid (Opt.get s.data.toList = (acc, 0)) := Lib.hid (HS.out acc (HR.out.trans (by rw [List.length_eq_zero_iff.1 (show (s.data.toList.drop s.size).length = 0 by omega)]; exact Opt.goes_end acc)))
      clear HS HN
      go_wp2_with fail
      go_ret2
      exact ⟨_, by rw [HG.out]; rfl, by rw [HG.out]; exact HO.out⟩
theorem runopts_any (l : List UInt8) (w : World) (hm : l.length ≤ 9223372036854775807) : Calls Try.prog 27 #[.string ⟨l.toArray⟩] w (GetPost (Opt.get l) w) := by
  by_cases h : l.length ≤ 2048
  · have := runopts_walk ⟨l.toArray⟩ w (by rw [sz]; exact h)
    simpa using this
  · have hlong : 2048 < l.length := by omega
    rw [Opt.get_long l hlong]
    clear h
    go_enter Try.func27, Try.ntmps27
    go_wp2_with fail
    go_ret2
    exact ⟨_, rfl, OwnsO.nil w⟩
end Go.Proofs.Ytmonoicdejallaa.O
