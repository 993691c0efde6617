/-
  The walk of the law that frames come back out of a row of them.
-/
import Derived.Test.YtnkkompmdngkgaaR9
import Derived.Test.YtnkkompmdngkgaaOwnF
import Derived.Test.YtnkkompmdngkgaaReads
import Derived.Test.YtnkkompmdngkgaaProto
import Derived.Test.YtnkkompmdngkgaaIn
import Derived.Test.YtnkkompmdngkgaaBulk
import Derived.Deep.DeepCutAuto
import Derived.Deep.QuietTactic
import Derived.BigQuiet
namespace Go.Proofs.Ytnkkompmdngkgaa.R
open Go.RowKit
/-- The protocols of a row of frames, made of any numbers. -/
def prs (pn : Int → Nat) (zs : List Int) (k : Nat) : Nat := if k < zs.length then pn (zs.getD k 0) else 1
theorem prs_good (pn : Int → Nat) (hG : ∀ z, Frm.good (pn z : Int) = true) (zs : List Int) (k : Nat) : Frm.good (prs pn zs k : Int) = true := by
  unfold prs
  split
  · exact hG _
  · decide
set_option maxRecDepth 100000 in
set_option maxHeartbeats 6400000 in
theorem rows_walk (pp : Option Addr) (pcap : Nat) (zs : List Int) (qp : Option Addr) (qcap n : Nat) (ds : Nat → List UInt8) (m : Int) (w : World) (A B : Nat → Addr) (pa pn : Int → Nat)
    (hpi : Hid (∀ k, k < zs.length → ∀ W : World, (Instr.indexAt 39 (.slice pp zs.length pcap) (.int .i64 (k : Int))).run Try.prog W = .ok (.pointer (some (B k))) W))
    (hpc : Hid (∀ k, k < zs.length → w.cell? (B k) = some (.int .i64 (zs.getD k 0)) ∧ (B k).block < w.heap.size))
    (hix : Hid (∀ k, k < n → ∀ W : World, (Instr.indexAt 40 (.slice qp n qcap) (.int .i64 (k : Int))).run Try.prog W = .ok (.pointer (some (A k))) W))
    (hcell : Hid (∀ k, k < n → w.cell? (A k) = some (.string ⟨(ds k).toArray⟩) ∧ (A k).block < w.heap.size))
    (hsz : Hid (∀ k, k < n → (ds k).length ≤ maxLen)) (hnl : n ≤ 9223372036854775807)
    (hA : Hid (∀ z, bits BinOp.and .i64 z 65278 = (pa z : Int))) (hB : Hid (∀ z, bits BinOp.or .i64 (pa z : Int) 1 = (pn z : Int))) (hG : Hid (∀ z, Frm.good (pn z : Int) = true)) :
    Calls Try.prog 5 #[.slice pp zs.length pcap, .slice qp n qcap, .int .i64 m] w fun e w' => e = .returned (.bool true) ∧ Below w.heap.size w w' := by
  have PG := Lib.hid (prs_good pn hG.out zs)
  obtain ⟨pr, hpr⟩ : ∃ pr, pr = prs pn zs := ⟨_, rfl⟩
  have HP := Lib.hid hpr
  rw [← hpr] at PG
  clear hpr
  go_enter Try.func5, Try.ntmps5
  go_wp2_with fail
  refine (awake_any _).mono ?_
  rintro e w0 ⟨rfl, hb0⟩
  have B0 := Lib.hid hb0
  clear hb0
  go_wp2_with fail
  go_loopw [7, 8, 9] (fun a v i wr => ∃ k : Nat, k ≤ n ∧ k ≤ 6 ∧ i = .int .i64 k ∧ a = .string ⟨(Frm.row m (Frm.kept pr ds k)).toArray⟩ ∧ OwnsF w wr v (Frm.kept pr ds k)) (fun _ _ i _ => 6 - (intOf i).toNat)
  case atStart => exact ⟨0, by omega, by omega, rfl, rfl, ⟨World.ownsRow_nil _ _ _ _, B0.out⟩⟩
  case round =>
    obtain ⟨k, hk, hk6, rfl, rfl, ho⟩ := hrel
    have HO := Lib.hid ho
    clear ho
    have HKG := Lib.hid (Frm.kept_good pr ds PG.out k)
    have hkl := Frm.kept_length pr ds k
    have hrl := Frm.row_length m (Frm.kept pr ds k) (fun f hf => (HKG.out f hf).2)
    by_cases hlt : k < n ∧ k < 6
    · obtain ⟨h1, h2⟩ := hlt
      have hpk := PG.out k
      have hds := hsz.out k h1
      have KL := Lib.hid (Frm.kept_long pr ds k)
      have KS := Lib.hid (Frm.kept_short pr ds k)
      have HPK : Hid (pr k = prs pn zs k) := Lib.hid (by rw [HP.out])
      have hi := hix.out k h1
      obtain ⟨hc, hlb⟩ := hcell.out k h1
      rw [← HO.out.2.cell hlb] at hc
      have hlb2 := block_lt_of_cell hc
      generalize hdk : ds k = d at *
      generalize hpk2 : pr k = q at *
      have HD := Lib.hid hdk
      have HQ := Lib.hid hpk2
      clear hdk hpk2
      have HGd := Lib.hid hpk
      clear hpk
      generalize A k = Ak at *
      have hlb3 := Lib.hid hlb2
      clear hlb hlb2
      generalize hK : Frm.kept pr ds k = K at *
      have HK := Lib.hid hK
      clear hK
      go_upto_if 34 with (fail)
      go_cut [10] (fun t wx => t = .int .i64 (q : Int) ∧ wr = wx)
      case first =>
        unfold prs at HPK
        clear hi hc
        by_cases hz : k < zs.length
        · have hi := hpi.out k hz
          obtain ⟨hc, hlb⟩ := hpc.out k hz
          rw [← HO.out.2.cell hlb] at hc
          have a1 := hA.out (zs.getD k 0)
          have a2 := hB.out (zs.getD k 0)
          have HE : Hid (q = pn (zs.getD k 0)) := Lib.hid (by have := HPK.out; rwa [if_pos hz] at this)
          generalize zs.getD k 0 = zk at *
          generalize B k = Bk at *
          clear HPK hlb
          go_wp2_with fail
          go_meet
          case rel => exact ⟨by rw [HE.out], rfl⟩
        · have HE : Hid (q = 1) := Lib.hid (by have := HPK.out; rwa [if_neg hz] at this)
          clear HPK
          go_wp2_with fail
          go_meet
          case rel => exact ⟨by rw [HE.out]; rfl, rfl⟩
      case rest =>
        obtain ⟨rfl, rfl⟩ := hcut
        have hbox := (Below.refl wr.heap.size wr).alloc (Nat.le_refl _) (.cells #[.int .i64 (q : Int), .string ⟨d.toArray⟩] 23)
        have HOb := Lib.hid (OwnsF.below HO.out hbox)
        have hcb := (hbox.cell hlb3.out).trans hc
        have HCB := Lib.hid hcb
        have HLB : Hid (Ak.block < (wr.alloc (.cells #[.int .i64 (q : Int), .string ⟨d.toArray⟩] 23)).heap.size) := Lib.hid (Nat.lt_of_lt_of_le hlb3.out hbox.size)
        have P := fun w => fput_any q d m w hds
        clear hbox hcb
        by_cases hlong : 2048 < d.length
        · have hcd := Frm.code_long q d.length HGd.out hlong
          rw [Frm.put_bad _ _ _ (by omega), hcd] at P
          have P := Lib.hid P
          have HKL := Lib.hid (KL.out hlong)
          clear hcd KL KS
          go_wp2_with fail
          refine (P.out _).mono ?_
          rintro e w3 ⟨rfl, hb3⟩
          have HO3 := Lib.hid (HOb.out.below hb3)
          have hc3 := (hb3.cell HLB.out).trans HCB.out
          clear hb3 hc
          go_wp2_with (go_at_call 12; refine (num_any _ _).mono ?_; rintro e w9 ⟨rfl, rfl⟩)
          go_roundw
          case rel => exact ⟨k + 1, by omega, by omega, by go_num, by rw [HKL.out], by rw [HKL.out]; exact HO3.out⟩
          case measure => simp [intOf]; omega
        · have hcd := Frm.code_good q d.length HGd.out (by omega)
          rw [Frm.put_good _ _ _ hcd] at P
          have HKL := Lib.hid (KS.out hlong)
          have hwl := Frm.wire_length m q d
          have HR := Lib.hid (Frm.row_snoc m K (q, d))
          generalize hS : Frm.row m K = S at *
          have HS := Lib.hid hS
          clear hS
          obtain ⟨U, hU⟩ : ∃ U, U = [126] ++ Frm.wire m (q : Int).toNat d ++ [126] := ⟨_, rfl⟩
          rw [← hU] at P
          have hUl : U.length = (Frm.wire m q d).length + 2 := by rw [hU]; simp
          obtain ⟨V, hV⟩ : ∃ V, V = S ++ U := ⟨_, rfl⟩
          have r1 := sums S U (by omega) (by omega)
          rw [← hV] at r1
          unfold Sums at r1
          have HV : Hid (Frm.row m (K ++ [(q, d)]) = V) := Lib.hid (by rw [HR.out, hV, hU]; rfl)
          have P := Lib.hid P
          have hU4 : 4 ≤ U.length := by omega
          have hU5 : U.length ≤ 5000 := by omega
          clear hcd KL KS hU hV hUl HR
          go_wp2_with fail
          refine (P.out _).mono ?_
          rintro e w3 ⟨rfl, hb3⟩
          have HO3 := Lib.hid (HOb.out.below hb3)
          have hc3 := (hb3.cell HLB.out).trans HCB.out
          obtain ⟨k0, k1, hz3, _⟩ := box_kept (w := wr) (x := .int .i64 (q : Int)) (y := .string ⟨d.toArray⟩) ⟨by simp, by simp, by simp, (Below.refl _ _).alloc (Nat.le_refl _) _⟩ hb3
          clear hb3 hc
          go_wp2_with (first | (go_at_call 12; refine (num_any _ _).mono ?_; rintro e w9 ⟨rfl, rfl⟩) | (at_builtin; refine wp_pushF rfl _ _ rfl K q d HO3.out rfl rfl (by omega) ?_))
          intro v' w4 ho4
          have HO4 := Lib.hid ho4
          clear ho4
          go_wp2_with fail
          go_roundw
          case rel => exact ⟨k + 1, by omega, by omega, by go_num, by rw [HKL.out, HV.out], by rw [HKL.out]; exact HO4.out⟩
          case measure => simp [intOf]; omega
    · have hq : (k < n ∧ 6 ≤ k) ∨ n ≤ k := by omega
      have C := fun w => S.split_list (Frm.row m (Frm.kept pr ds k)) w (by omega)
      unfold S.SplitPost at C
      rw [Frm.split_row] at C
      generalize Frm.kept pr ds k = K at *
      have hK6 : K.length ≤ 6 := by omega
      have hLl : (Frm.wires m K).length = K.length := by simp [Frm.wires]
      have HL := Lib.hid hLl
      have HW : Hid (∀ j (h1 : j < (Frm.wires m K).length) (h2 : j < K.length), (Frm.wires m K)[j] = Frm.wire m K[j].1 K[j].2) := Lib.hid (fun j h1 h2 => by simp [Frm.wires])
      generalize Frm.wires m K = Ls at *
      generalize Frm.row m K = S at *
      have C := Lib.hid C
      clear hlt hLl
      rcases hq with ⟨h1, h2⟩ | h1
      all_goals
        go_wp2_with fail
        refine (C.out _).mono ?_
        rintro e w3 ⟨v3, rfl, ho3⟩
        have HO3 := Lib.hid (HO.out.below ho3.2)
        obtain ⟨p3, cap3, A3, e3, hi3, hc3⟩ := ho3.reads
        obtain ⟨p8, cap8, g8, e8, hi8, hc8⟩ := HO3.out.reads
        rw [HL.out] at e3
        subst e3 e8
        have HI3 := Lib.hid hi3
        have HC3 := Lib.hid hc3
        have HI8 := Lib.hid hi8
        have HC8 := Lib.hid hc8
        clear ho3 hi3 hc3 hi8 hc8
        go_wp2_with fail
        go_loopw [16] (fun i wx => ∃ j : Nat, j ≤ K.length ∧ i = .int .i64 j ∧ Below w3.heap.size w3 wx) (fun i _ => K.length - (intOf i).toNat)
        case atStart => exact ⟨0, by omega, rfl, Below.refl _ _⟩
        case round =>
          obtain ⟨j, hj, rfl, hbx⟩ := hrel
          have HBX := Lib.hid hbx
          clear hbx
          by_cases hjl : j < K.length
          · have hij := HI3.out j (by rw [HL.out]; exact hjl)
            have hcj := HC3.out j (by rw [HL.out]; exact hjl)
            rw [HW.out j _ hjl] at hcj
            have hcx := (HBX.out.cell (block_lt_of_cell hcj)).trans hcj
            have hi8 := HI8.out j hjl
            obtain ⟨c0, c1⟩ := HC8.out j hjl
            have d0 := (HBX.out.cell (block_lt_of_cell c0)).trans c0
            have d1 := (HBX.out.cell (block_lt_of_cell c1)).trans c1
            obtain ⟨hgd, hln⟩ := HKG.out K[j] (List.getElem_mem hjl)
            have hwl := Frm.wire_length m K[j].1 K[j].2
            have G : ∀ w, Calls Try.prog 16 #[.string ⟨(Frm.wire m K[j].1 K[j].2).toArray⟩] w fun e w' => e = .returned (.tuple #[.agg #[.int .i64 (K[j].1 : Int), .string ⟨K[j].2.toArray⟩], .int .i64 0]) ∧ Below w.heap.size w w' := fun w => by
              have := fget_any (Frm.wire m K[j].1 K[j].2) w (by omega)
              rw [Frm.get_wire _ _ _ hgd hln] at this
              exact this
            have G := Lib.hid G
            generalize K[j] = f at *
            obtain ⟨q, d⟩ := f
            obtain ⟨o8, ho8⟩ : ∃ o8, o8 = 2 * j := ⟨_, rfl⟩
            rw [← ho8] at hi8 d0 d1
            have D0 := Lib.hid d0
            have D1 := Lib.hid d1
            clear hcj c0 c1 hgd hln hwl ho8 d0 d1
            generalize A3 j = Aj at *
            go_wp2_with fail
            refine (G.out _).mono ?_
            rintro e w4 ⟨rfl, hb4⟩
            have hcw := (hb4.cell (block_lt_of_cell D0.out)).trans D0.out
            have hcw1 := (hb4.cell (block_lt_of_cell D1.out)).trans D1.out
            have hlt8 : g8 < w4.heap.size := block_lt_of_cell hcw
            have HB4 := Lib.hid (HBX.out.trans (hb4.mono HBX.out.size))
            clear hb4 hcx
            go_wp2_with fail
            go_quiet ((go_at_call 12; exact Calls.quiet_of_same ((num_any _ _).mono fun _ _ ⟨h1, h2⟩ => ⟨h1, h2.symm⟩)))
            obtain ⟨wq, hwq⟩ : ∃ wq, wq = (w4.alloc (.cells #[.int .i64 (q : Int), .string ⟨d.toArray⟩] 23)).drewN nq := ⟨_, rfl⟩
            have HBQ := Lib.hid (hwq ▸ below_drewN (HB4.out.alloc HB4.out.size _) nq : Below w3.heap.size w3 wq)
            rw [← hwq]
            clear hwq
            go_wp2_with fail
            go_roundw
            case rel => exact ⟨j + 1, by omega, by go_num, HBQ.out⟩
            case measure => simp [intOf]; omega
          · obtain rfl : j = K.length := by omega
            go_wp2_with fail
            go_ret
            exact ⟨rfl, HO3.out.2.trans (HBX.out.mono HO3.out.2.size)⟩
theorem walk_rows (v0 : Value) (zs : List Int) (v1 : Value) (ss : List ByteArray) (m : Int) (w : World) (h0 : IntsIn w v0 zs) (_b0 : zs.length ≤ maxLen) (h1 : TextsIn w v1 ss) (b1 : ss.length ≤ maxLen ∧ ∀ s ∈ ss, s.size ≤ maxLen) (_wm : (Lit.int .i64 m).wf = true) :
    Calls Try.prog 5 #[v0, v1, .int .i64 m] w fun e w' => e = .returned (.bool true) ∧ Below w.heap.size w w' := by
  obtain ⟨p, cap, B, rfl, hi, hc⟩ := h0.reads
  obtain ⟨pa, hpa⟩ := Classical.axiomOfChoice proto_of
  obtain ⟨pn, hpn⟩ := Classical.axiomOfChoice hpa
  have hn : ss.length ≤ 9223372036854775807 := by have := b1.1; unfold maxLen at this; omega
  have hds : ∀ k, k < ss.length → ((ss.getD k ByteArray.empty).data.toList).length ≤ maxLen := by
    intro k hk
    have := b1.2 (ss.getD k ByteArray.empty) (by simp [List.getD, hk])
    simpa using this
  rcases h1 with ⟨rfl, rfl⟩ | ⟨a, acap, rfl, ha⟩
  · exact rows_walk p cap zs none 0 0 (fun k => (([] : List ByteArray).getD k ByteArray.empty).data.toList) m w (fun _ => ⟨0, 0, none⟩) B pa pn (Lib.hid hi) (Lib.hid hc) (Lib.hid fun k hk => absurd hk (by simp)) (Lib.hid fun k hk => absurd hk (by simp)) (Lib.hid fun k hk => absurd hk (by simp)) (by omega)
      (Lib.hid fun z => (hpn z).1) (Lib.hid fun z => (hpn z).2.1) (Lib.hid fun z => (hpn z).2.2)
  · refine rows_walk p cap zs (some a) acap ss.length (fun k => (ss.getD k ByteArray.empty).data.toList) m w (fun k => a.add k) B pa pn (Lib.hid hi) (Lib.hid hc) (Lib.hid fun k hk W => index_at a _ acap k hk W) (Lib.hid fun k hk => ?_) (Lib.hid hds) hn
      (Lib.hid fun z => (hpn z).1) (Lib.hid fun z => (hpn z).2.1) (Lib.hid fun z => (hpn z).2.2)
    have h := ha k hk
    refine ⟨?_, block_lt_of_cell h⟩
    rw [h]
end Go.Proofs.Ytnkkompmdngkgaa.R
