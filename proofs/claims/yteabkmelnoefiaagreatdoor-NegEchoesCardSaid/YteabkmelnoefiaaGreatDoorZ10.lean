/-
  Contracts: the library's IndexFunc and ContainsFunc at options.
  Contracts: what stands in a byte, which codes configure, whether a packet holds its own; the document's own two bytes.
  Contracts: the library's ContainsFunc at options, judge's closure.
  The library's own contracts for strings.Builder, laid at this program, with the frame that reaches above the builder: a byte, a text written, the text read.
  (A table of numbers and the kernel's comparison of each body; each contract is one application.)
  Contracts: judge of options, the program's Put of options.
  Contract of the document's own Opts.
-/
import Derived.Test.YteabkmelnoefiaaGreatDoorZ05
import Derived.Test.YteabkmelnoefiaaGreatDoorZ01
import Derived.Test.YteabkmelnoefiaaGreatDoorZ02
import Derived.Shelf.RegionOpenPlain
import Derived.Shelf.Strings.BuilderK
import Derived.Test.YteabkmelnoefiaaGreatDoorProg
import Derived.Laws.Concat
import Derived.BigRegion
import Derived.Deep.QuietTactic
import Derived.BigQuiet
namespace Go.Proofs.YteabkmelnoefiaaGreatDoor.O
open Go.RowKit
theorem opt_ret {a b : Int} (h : a = b) : Ending.returned (.int .i64 a) = .returned (.int .i64 b) := by rw [h]
set_option maxHeartbeats 800000 in
theorem index_any (g : Nat) (lb : Array Value) (p : Opt.Op → Bool) (v : Value) (os : List Opt.Op) (w : World) (hr : ReadsO w v os) (hl : os.length ≤ 4611686018427387904)
    (eg : ∀ args w, (callFunc g args).run Tryz.prog w = .ok (.enter g args) w)
    (hp : Hid (∀ (W : World) (o : Opt.Op), Below w.heap.size w W → Calls Tryz.prog g (#[.agg #[.int .i64 o.1, .string ⟨o.2.toArray⟩]] ++ lb) W fun e w' => e = .returned (.bool (p o)) ∧ Below w.heap.size w w')) :
    Calls Tryz.prog 111 #[v, .func (.func g) #[] lb] w fun e w' => e = .returned (.int .i64 (Opt.first p os)) ∧ Below w.heap.size w w' := by
  obtain ⟨q, cap, b, off, rfl, _, _, hi, hc⟩ := hr.at
  have HI := Lib.hid hi
  have HC := Lib.hid hc
  clear hi hc hr
  go_enter Tryz.func111, Tryz.ntmps111
  go_wp2_with fail
  go_loopw [5, 8] (fun _ s8 wr => ∃ kk : Nat, kk ≤ os.length ∧ s8 = .int .i64 kk ∧ Below w.heap.size w wr ∧ Hid (∀ j (h : j < os.length), j < kk → p os[j] = false)) (fun _ i _ => os.length - (intOf i).toNat)
  case atStart => exact ⟨0, Nat.zero_le _, rfl, Below.refl _ w, Lib.hid fun j _ hj => absurd hj (Nat.not_lt_zero _)⟩
  case round =>
    obtain ⟨kk, hkk, rfl, hb, HA⟩ := hrel
    have HB := Lib.hid hb
    clear hb
    by_cases hlt : kk < os.length
    · have hi := HI.out kk hlt
      obtain ⟨c0, c1⟩ := HC.out kk hlt
      rw [← HB.out.cell (block_lt_of_cell c0)] at c0
      rw [← HB.out.cell (block_lt_of_cell c1)] at c1
      have hcall := hp.out wr os[kk] HB.out
      have HT : Hid (p os[kk] = true → Opt.first p os = kk) := Lib.hid fun e => Opt.first_hit p os kk hlt e HA.out
      have HF : Hid (p os[kk] = false → ∀ j (h : j < os.length), j < kk + 1 → p os[j] = false) := Lib.hid fun e j h hj => by
        by_cases q : j = kk
        · subst q; exact e
        · exact HA.out j h (by omega)
      generalize os[kk] = o at *
      obtain ⟨z, d⟩ := o
      obtain ⟨o8, ho8⟩ : ∃ o8, o8 = off + 2 * kk := ⟨_, rfl⟩
      rw [← ho8] at hi c0 c1
      clear ho8
      cases hq : p (z, d)
      · rw [hq] at hcall
        have HF2 := Lib.hid (HF.out hq)
        clear hq HT HF
        have hcall := Lib.hid hcall
        go_wp2_with (go_at_fn g; refine hcall.out.mono ?_; rintro e w' ⟨rfl, hb'⟩)
        have HB2 := Lib.hid hb'
        clear hb'
        go_roundw
        case rel => exact ⟨kk + 1, by omega, by go_num, HB2.out, HF2⟩
        case measure => simp [intOf]; omega
      · rw [hq] at hcall
        have HT2 := Lib.hid (HT.out hq)
        clear hq HT HF
        have hcall := Lib.hid hcall
        go_wp2_with (go_at_fn g; refine hcall.out.mono ?_; rintro e w' ⟨rfl, hb'⟩)
        go_ret
        exact ⟨opt_ret HT2.out.symm, hb'⟩
    · obtain rfl : kk = os.length := by omega
      have HM := Lib.hid (Opt.first_miss p os fun j h => HA.out j h h)
      go_wp2_with fail
      go_ret
      exact ⟨opt_ret HM.out.symm, HB.out⟩
set_option maxHeartbeats 400000 in
theorem contains_with (g : Nat) (p : Opt.Op → Bool) (v : Value) (os : List Opt.Op) (w : World) (hr : ReadsO w v os) (hl : os.length ≤ 4611686018427387904)
    (eg : ∀ args w, (callFunc g args).run Tryz.prog w = .ok (.enter g args) w)
    (hp : ∀ (W : World) (o : Opt.Op), Calls Tryz.prog g #[.agg #[.int .i64 o.1, .string ⟨o.2.toArray⟩]] W fun e w' => e = .returned (.bool (p o)) ∧ Below W.heap.size W w') :
    Calls Tryz.prog 97 #[v, .func (.func g) #[] #[]] w fun e w' => e = .returned (.bool (os.any p)) ∧ Below w.heap.size w w' := by
  rw [← Opt.first_any]
  have I := Lib.hid (index_any g #[] p v os w hr hl eg (Lib.hid fun W o hb => (hp W o).mono fun _ _ ⟨h1, h2⟩ => ⟨h1, bel2 hb h2⟩))
  generalize Opt.first p os = z at *
  clear hr
  go_enter Tryz.func97, Tryz.ntmps97
  go_wp2_with fail
  refine I.out.mono ?_
  rintro e w1 ⟨rfl, hb1⟩
  have HB2 := Lib.hid hb1
  clear hb1
  go_wp2_with fail
  go_ret
  exact ⟨rfl, HB2.out⟩
end Go.Proofs.YteabkmelnoefiaaGreatDoor.O
namespace Go.Proofs.YteabkmelnoefiaaGreatDoor.C
open Go.RowKit
theorem isByte_any (z : Int) (W : World) : Calls Tryz.prog 58 #[.int .i64 z] W fun e w' => e = .returned (.bool (Ctl.byte z)) ∧ W = w' := by
  obtain ⟨m, hm⟩ : ∃ m, m = z % 256 := ⟨_, rfl⟩
  have b1 : 0 ≤ m := by omega
  have b2 : m ≤ 255 := by omega
  have hk : Ctl.byte z = (z == m) := by
    unfold Ctl.byte
    rw [Bool.eq_iff_iff]
    simp only [Bool.and_eq_true, decide_eq_true_eq, beq_iff_eq]
    omega
  rw [hk]
  have h0 : z % 256 = m := hm.symm
  clear hk hm
  go_enter Tryz.func58, Tryz.ntmps58
  go_wp2_with fail
  go_ret
  exact ⟨rfl, rfl⟩
theorem configures_any (c : Int) (W : World) : Calls Tryz.prog 89 #[.int .i64 c] W fun e w' => e = .returned (.bool (Ctl.conf c)) ∧ W = w' := by
  by_cases h1 : 1 ≤ c
  · by_cases h2 : c ≤ 4
    · have hc : Ctl.conf c = true := by unfold Ctl.conf; simp [h1, h2]
      rw [hc]
      clear hc
      go_enter Tryz.func89, Tryz.ntmps89
      go_wp2_with fail
      go_ret
      exact ⟨rfl, rfl⟩
    · have hc : Ctl.conf c = false := by unfold Ctl.conf; simp [h2]
      rw [hc]
      clear hc
      go_enter Tryz.func89, Tryz.ntmps89
      go_wp2_with fail
      go_ret
      exact ⟨rfl, rfl⟩
  · have hc : Ctl.conf c = false := by unfold Ctl.conf; simp [h1]
    rw [hc]
    clear hc
    go_enter Tryz.func89, Tryz.ntmps89
    go_wp2_with fail
    go_ret
    exact ⟨rfl, rfl⟩
theorem own_any (c i : Int) (q : Option Addr) (cap : Nat) (os : List Opt.Op) (d : List UInt8) (W : World) (hl : os.length ≤ 4611686018427387904) :
    Calls Tryz.prog 60 #[.agg #[.int .i64 c, .int .i64 i, .slice q os.length cap, .string ⟨d.toArray⟩]] W fun e w' => e = .returned (.bool (Ctl.own (c, i, os, d))) ∧ Below W.heap.size W w' := by
  have C := fun W => configures_any c W
  unfold Ctl.own
  cases hc : Ctl.conf c
  · rw [hc] at C
    have C := Lib.hid C
    have e : ((os.length : Int) == 0) = os.isEmpty := by cases os <;> simp; omega
    dsimp only
    rw [if_neg (by simp)]
    generalize os.isEmpty = r at *
    generalize os.length = n at *
    clear hc
    go_enter Tryz.func60, Tryz.ntmps60
    go_wp2_with (refine (C.out _).mono ?_; rintro e w1 ⟨rfl, rfl⟩)
    go_ret
    exact ⟨rfl, (Below.refl _ W).alloc (Nat.le_refl _) _⟩
  · rw [hc] at C
    have C := Lib.hid C
    dsimp only
    rw [if_pos rfl]
    generalize os.length = n at *
    clear hc
    go_enter Tryz.func60, Tryz.ntmps60
    go_wp2_with (refine (C.out _).mono ?_; rintro e w1 ⟨rfl, rfl⟩)
    go_ret
    exact ⟨rfl, (Below.refl _ W).alloc (Nat.le_refl _) _⟩
/-- The high byte, the low byte. -/
def two (n : Nat) : List UInt8 := [UInt8.ofNat (n / 256), UInt8.ofNat (n % 256)]
theorem two_cells (n : Nat) (h : n < 65536) : (#[Value.int .u8 ((n : Int) / 256), Value.int .u8 ((n : Int) % 256)] : Array Value) = (Lib.byteCells (two n)).toArray := by
  have h1 : (UInt8.ofNat (n / 256)).toNat = n / 256 := by simp; omega
  simp only [two, Lib.byteCells, List.map_cons, List.map_nil, h1]
  simp
set_option maxHeartbeats 400000 in
theorem two_any (n : Nat) (w : World) (hn : n < 65536) : Calls Tryz.prog 66 #[.int .i64 n] w fun e w' => e = .returned (.string ⟨(two n).toArray⟩) ∧ Below w.heap.size w w' := by
  have hc := conv_new w (two n) _ (two_cells n hn)
  have hl : (two n).length = 2 := rfl
  rw [hl] at hc
  clear hl
  obtain ⟨q, eq⟩ : ∃ q : Nat, q = n / 256 := ⟨_, rfl⟩
  obtain ⟨m, em⟩ : ∃ m : Nat, m = n % 256 := ⟨_, rfl⟩
  have hd : ((n : Int) / 256) = (q : Int) := by omega
  have hm : ((n : Int) % 256) = (m : Int) := by omega
  have a1 := and255 q (by omega)
  have a2 := and255 n hn
  have e1 : q % 256 = q := by omega
  rw [e1] at a1
  rw [← em] at a2
  rw [hd, hm] at hc
  have hq : q < 256 := by omega
  have hm2 : m < 256 := by omega
  clear eq em e1 hm
  go_enter Tryz.func66, Tryz.ntmps66
  go_wp2
  go_ret
  exact ⟨rfl, (Below.refl _ w).alloc (Nat.le_refl _) _⟩
end Go.Proofs.YteabkmelnoefiaaGreatDoor.C
namespace Go.Proofs.YteabkmelnoefiaaGreatDoor.O
open Go.RowKit
theorem judge_one_any (o : Opt.Op) (W : World) :
    Calls Tryz.prog 98 #[.agg #[.int .i64 o.1, .string ⟨o.2.toArray⟩]] W fun e w' => e = .returned (.bool (!Opt.kindOk o)) ∧ Below W.heap.size W w' := by
  obtain ⟨z, d⟩ := o
  obtain ⟨m, hm⟩ : ∃ m, m = z % 256 := ⟨_, rfl⟩
  have b1 : 0 ≤ m := by omega
  have b2 : m ≤ 255 := by omega
  have hk : Opt.kindOk (z, d) = (z == m) := by
    unfold Opt.kindOk
    rw [Bool.eq_iff_iff]
    simp only [Bool.and_eq_true, decide_eq_true_eq, beq_iff_eq]
    omega
  rw [hk]
  cases hq : (z == m)
  all_goals
    have hb : (z != m) = !(z == m) := rfl
    rw [hq] at hb
    simp only [Bool.not_true, Bool.not_false] at hb ⊢
    have h0 : z % 256 = m := hm.symm
    clear hk hm
    go_enter Tryz.func98, Tryz.ntmps98
    go_wp2_with fail
    go_ret
    exact ⟨rfl, (Below.refl _ _).alloc (Nat.le_refl _) _⟩
set_option maxHeartbeats 400000 in
theorem contains_any (v : Value) (os : List Opt.Op) (w : World) (hr : ReadsO w v os) (hl : os.length ≤ 4611686018427387904) :
    Calls Tryz.prog 97 #[v, .func (.func 98) #[] #[]] w fun e w' => e = .returned (.bool (!(os.all Opt.kindOk))) ∧ Below w.heap.size w w' := by
  rw [← Opt.bad_any, ← Opt.first_any]
  have I := Lib.hid (index_any 98 #[] (fun o => !Opt.kindOk o) v os w hr hl (enters_of Tryz.func98 (by kernel_rfl) rfl)
    (Lib.hid fun W o hb => (judge_one_any o W).mono fun _ _ ⟨h1, h2⟩ => ⟨h1, bel2 hb h2⟩))
  generalize Opt.first (fun o => !Opt.kindOk o) os = z at *
  clear hr
  go_enter Tryz.func97, Tryz.ntmps97
  go_wp2_with fail
  refine I.out.mono ?_
  rintro e w1 ⟨rfl, hb1⟩
  have HB2 := Lib.hid hb1
  clear hb1
  go_wp2_with fail
  go_ret
  exact ⟨rfl, HB2.out⟩
end Go.Proofs.YteabkmelnoefiaaGreatDoor.O
namespace Go.Proofs
open Go.Shelf
def Tryz.layK_ren : Go.Shelf.Ren := ⟨fun | 166 => 87 | 167 => 86 | 169 => 88 | 240 => 99 | 276 => 112 | n => n, fun | 0 => 0 | 3 => 3 | 4 => 4 | 5 => 5 | 9 => 9 | 20 => 20 | 37 => 113 | 70 => 148 | 72 => 150 | 75 => 152 | 80 => 100 | 127 => 160 | 164 => 176 | n => n, fun | n => n⟩
theorem Tryz.layK166 : Go.Proofs.Lays.n166 Tryz.prog Tryz.layK_ren := {
  mixed := by kernel_rfl
  f166 := Tryz.func87.trans (congrArg some (by kernel_rfl))
  f240 := Tryz.func99.trans (congrArg some (by kernel_rfl))
  f276 := Tryz.func112.trans (congrArg some (by kernel_rfl))
  t0 := Tryz.underlying0
  a0 := Tryz.isAgg0
  z0 := Tryz.sizeOf0
  v0 := Tryz.zeroValue0
  t3 := Tryz.underlying3
  a3 := Tryz.isAgg3
  z3 := Tryz.sizeOf3
  v3 := Tryz.zeroValue3
  t4 := Tryz.underlying4
  a4 := Tryz.isAgg4
  z4 := Tryz.sizeOf4
  v4 := Tryz.zeroValue4
  t9 := Tryz.underlying9
  a9 := Tryz.isAgg9
  z9 := Tryz.sizeOf9
  v9 := Tryz.zeroValue9
  t20 := Tryz.underlying20
  a20 := Tryz.isAgg20
  z20 := Tryz.sizeOf20
  v20 := Tryz.zeroValue20
  t37 := Tryz.underlying113
  a37 := Tryz.isAgg113
  z37 := Tryz.sizeOf113
  v37 := Tryz.zeroValue113
  t70 := Tryz.underlying148
  a70 := Tryz.isAgg148
  z70 := Tryz.sizeOf148
  v70 := Tryz.zeroValue148
  t72 := Tryz.underlying150
  a72 := Tryz.isAgg150
  z72 := Tryz.sizeOf150
  v72 := Tryz.zeroValue150
  t75 := Tryz.underlying152
  a75 := Tryz.isAgg152
  z75 := Tryz.sizeOf152
  v75 := Tryz.zeroValue152
  t164 := Tryz.underlying176
  a164 := Tryz.isAgg176
  z164 := Tryz.sizeOf176
  v164 := Tryz.zeroValue176 }
theorem Tryz.layK167 : Go.Proofs.Lays.n167 Tryz.prog Tryz.layK_ren := {
  mixed := by kernel_rfl
  f167 := Tryz.func86.trans (congrArg some (by kernel_rfl))
  f240 := Tryz.func99.trans (congrArg some (by kernel_rfl))
  f276 := Tryz.func112.trans (congrArg some (by kernel_rfl))
  t0 := Tryz.underlying0
  a0 := Tryz.isAgg0
  z0 := Tryz.sizeOf0
  v0 := Tryz.zeroValue0
  t4 := Tryz.underlying4
  a4 := Tryz.isAgg4
  z4 := Tryz.sizeOf4
  v4 := Tryz.zeroValue4
  t5 := Tryz.underlying5
  a5 := Tryz.isAgg5
  z5 := Tryz.sizeOf5
  v5 := Tryz.zeroValue5
  t9 := Tryz.underlying9
  a9 := Tryz.isAgg9
  z9 := Tryz.sizeOf9
  v9 := Tryz.zeroValue9
  t20 := Tryz.underlying20
  a20 := Tryz.isAgg20
  z20 := Tryz.sizeOf20
  v20 := Tryz.zeroValue20
  t37 := Tryz.underlying113
  a37 := Tryz.isAgg113
  z37 := Tryz.sizeOf113
  v37 := Tryz.zeroValue113
  t70 := Tryz.underlying148
  a70 := Tryz.isAgg148
  z70 := Tryz.sizeOf148
  v70 := Tryz.zeroValue148
  t72 := Tryz.underlying150
  a72 := Tryz.isAgg150
  z72 := Tryz.sizeOf150
  v72 := Tryz.zeroValue150
  t75 := Tryz.underlying152
  a75 := Tryz.isAgg152
  z75 := Tryz.sizeOf152
  v75 := Tryz.zeroValue152
  t164 := Tryz.underlying176
  a164 := Tryz.isAgg176
  z164 := Tryz.sizeOf176
  v164 := Tryz.zeroValue176 }
theorem Tryz.layK169 : Go.Proofs.Lays.n169 Tryz.prog Tryz.layK_ren := {
  mixed := by kernel_rfl
  f169 := Tryz.func88.trans (congrArg some (by kernel_rfl))
  t0 := Tryz.underlying0
  a0 := Tryz.isAgg0
  z0 := Tryz.sizeOf0
  v0 := Tryz.zeroValue0
  t3 := Tryz.underlying3
  a3 := Tryz.isAgg3
  z3 := Tryz.sizeOf3
  v3 := Tryz.zeroValue3
  t9 := Tryz.underlying9
  a9 := Tryz.isAgg9
  z9 := Tryz.sizeOf9
  v9 := Tryz.zeroValue9
  t37 := Tryz.underlying113
  a37 := Tryz.isAgg113
  z37 := Tryz.sizeOf113
  v37 := Tryz.zeroValue113
  t70 := Tryz.underlying148
  a70 := Tryz.isAgg148
  z70 := Tryz.sizeOf148
  v70 := Tryz.zeroValue148
  t72 := Tryz.underlying150
  a72 := Tryz.isAgg150
  z72 := Tryz.sizeOf150
  v72 := Tryz.zeroValue150
  t127 := Tryz.underlying160
  a127 := Tryz.isAgg160
  z127 := Tryz.sizeOf160
  v127 := Tryz.zeroValue160 }
theorem Tryz.layK_extra : Builder.Extra Tryz.prog Tryz.layK_ren := {
  sizeBuilder := by kernel_rfl
  liesBuilder := by kernel_rfl
  t5 := Tryz.underlying5
  a5 := Tryz.isAgg5
  z5 := Tryz.sizeOf5
  v5 := Tryz.zeroValue5
  infoByte := by kernel_rfl
  cellsByte := by kernel_rfl
  sizeByte := by kernel_rfl
  neB5 := by decide }
open Go.RowKit in
/-- A builder, fresh or used, that holds these bytes. -/
abbrev Tryz.IsB (B b : Nat) (l : List UInt8) (w : World) : Prop := Lib.IsBuilderF 150 5 B b (Lib.byteCells l) w
open Go.RowKit in
/-- What was there is as it was, but the builder and rows of bytes. -/
abbrev Tryz.OthB (b : Nat) (w w' : World) : Prop := Lib.OthersKept 5 (some b) w w'
open Go.RowKit in
/-- A builder just laid. -/
theorem Tryz.kNew (W : World) : Tryz.IsB W.heap.size W.heap.size [] (W.alloc (.cells #[.pointer none, .slice none 0 0] 150)) :=
  .inl ⟨Nat.le_refl _, .slice none 0 0, heap_alloc_new _ _, World.ownsRowF_nil _ _ _ _, by simp [Value.ownBlock]⟩
open Go.RowKit in
theorem Tryz.OthB.block {b k : Nat} {w w' : World} {C : Array Value} {T : TypeId} (h : Tryz.OthB b w w') (hk : w.heap[k]? = some (.cells C T)) (hb : k ≠ b) (hT : T ≠ 5) : w'.heap[k]? = some (.cells C T) :=
  h k _ hk (fun e => hb (by injection e)) (fun c fz e => hT (by injection e))
open Go.RowKit in
/-- A byte more. -/
theorem Tryz.kByte (B b : Nat) (l : List UInt8) (c : UInt8) (z : Int) (w : World) (h : Tryz.IsB B b l w) (hz : z = (c.toNat : Int)) (hlen : l.length + 1 ≤ 140737488355328) (hBw : B ≤ w.heap.size) :
    Calls Tryz.prog 86 #[.pointer (some ⟨b, 0, none⟩), .int .u8 z] w fun e w' => e = .returned .nilIface ∧ Tryz.IsB B b (l ++ [c]) w' ∧ Below B w w' ∧ Tryz.OthB b w w' := by
  subst hz
  refine (Any.Builder_WriteByte_k Tryz.layK167 Tryz.layK_extra B b (Lib.byteCells l) c.toNat w h (by simp [Lib.byteCells]; omega) hBw).mono fun e w' ⟨h1, h2, h3, h4⟩ => ⟨h1, .inr ?_, h3, h4⟩
  have e2 : Lib.byteCells (l ++ [c]) = Lib.byteCells l ++ [.int .u8 (c.toNat : Int)] := by simp [Lib.byteCells]
  rw [e2]
  exact h2
open Go.RowKit in
/-- A text more. -/
theorem Tryz.kText (B b : Nat) (l d : List UInt8) (w : World) (h : Tryz.IsB B b l w) (hlen : l.length + d.length ≤ 140737488355328) (hBw : B ≤ w.heap.size) :
    Calls Tryz.prog 87 #[.pointer (some ⟨b, 0, none⟩), .string ⟨d.toArray⟩] w fun e w' => e = .returned (.tuple #[.int .i64 d.length, .nilIface]) ∧ Tryz.IsB B b (l ++ d) w' ∧ Below B w w' ∧ Tryz.OthB b w w' := by
  have hs : (ByteArray.mk d.toArray).size = d.length := by simp [ByteArray.size]
  refine (Any.Builder_WriteString_k Tryz.layK166 Tryz.layK_extra B b (Lib.byteCells l) ⟨d.toArray⟩ w h (by rw [hs]; simp [Lib.byteCells]; omega) hBw).mono fun e w' ⟨h1, h2, h3, h4⟩ => ⟨by rw [h1, hs], .inr ?_, h3, h4⟩
  have e2 : Lib.byteCells (l ++ d) = Lib.byteCells l ++ Lib.strCells ⟨d.toArray⟩ := by simp [Lib.byteCells, Lib.strCells]
  rw [e2]
  exact h2
open Go.RowKit in
/-- What it holds, as a string. -/
theorem Tryz.kAll (B b : Nat) (l : List UInt8) (w : World) (h : Tryz.IsB B b l w) (hBw : B ≤ w.heap.size) :
    Calls Tryz.prog 88 #[.pointer (some ⟨b, 0, none⟩)] w fun e w' => e = .returned (.string ⟨l.toArray⟩) ∧ Below B w w' :=
  (Any.Builder_String_any_k Tryz.layK169 Tryz.layK_extra B b l w h hBw).mono fun _ _ ⟨h1, _, h3, _⟩ => ⟨h1, h3⟩
end Go.Proofs
namespace Go.Proofs.YteabkmelnoefiaaGreatDoor.O
open Go.RowKit
set_option maxHeartbeats 800000 in
theorem judge_any (v : Value) (os : List Opt.Op) (w : World) (hr : ReadsO w v os) (hl : os.length ≤ 4611686018427387904) :
    Calls Tryz.prog 85 #[v] w fun e w' => e = .returned (.int .i64 (Opt.code os)) ∧ Below w.heap.size w w' := by
  have C := contains_any v os w hr hl
  cases hk : os.all Opt.kindOk
  · rw [hk] at C
    have C := Lib.hid C
    rw [Opt.code_bad os hk]
    clear hk hr
    go_enter Tryz.func85, Tryz.ntmps85
    go_wp2_with fail
    refine C.out.mono ?_
    rintro e w1 ⟨rfl, hb1⟩
    go_wp2_with fail
    go_ret
    exact ⟨rfl, hb1⟩
  · rw [hk] at C
    have C := Lib.hid C
    have HK := Lib.hid hk
    clear hk
    obtain ⟨q, cap, b, off, rfl, _, _, hi, hc⟩ := hr.at
    have HI := Lib.hid hi
    have HC := Lib.hid hc
    clear hi hc hr
    go_enter Tryz.func85, Tryz.ntmps85
    go_wp2_with fail
    refine C.out.mono ?_
    rintro e w1 ⟨rfl, hb1⟩
    have HB1 := Lib.hid hb1
    clear hb1
    go_wp2_with fail
    go_loopw [3, 10] (fun s i wr => ∃ k : Nat, k ≤ os.length ∧ i = .int .i64 k ∧ s = .int .i64 (Opt.wires (os.take k)).length ∧ Opt.fits (os.take k) = true ∧ Below w.heap.size w wr) (fun _ i _ => os.length - (intOf i).toNat)
    case atStart => exact ⟨0, Nat.zero_le _, rfl, rfl, rfl, HB1.out⟩
    case round =>
      obtain ⟨k, hk, rfl, rfl, hf, hb⟩ := hrel
      have HB := Lib.hid hb
      have HF := Lib.hid hf
      have hn := (Opt.fits_short _ hf).2
      clear hb hf
      by_cases hlt : k < os.length
      · have hi := HI.out k hlt
        obtain ⟨c0, c1⟩ := HC.out k hlt
        rw [← HB.out.cell (block_lt_of_cell c0)] at c0
        rw [← HB.out.cell (block_lt_of_cell c1)] at c1
        have HW : Hid ((Opt.wires (os.take (k + 1))).length = (Opt.wires (os.take k)).length + (os[k].2.length + 2)) := Lib.hid (by rw [Opt.wires_snoc os k hlt, List.length_append, Opt.one_length])
        have HX : Hid ((253 < os[k].2.length ∨ 2048 < (Opt.wires (os.take k)).length + (os[k].2.length + 2)) → Opt.code os = 401) := Lib.hid fun h => Opt.code_far os HK.out k (Opt.fits_far os k hlt h)
        have HG : Hid (os[k].2.length ≤ 253 → (Opt.wires (os.take k)).length + (os[k].2.length + 2) ≤ 2048 → Opt.fits (os.take (k + 1)) = true) := Lib.hid fun h1 h2 => Opt.fits_two os k hlt HF.out h1 h2
        generalize (Opt.wires (os.take k)).length = n at *
        generalize os[k] = o at *
        obtain ⟨z, d⟩ := o
        dsimp only at HX HG HW
        obtain ⟨o8, ho8⟩ : ∃ o8, o8 = off + 2 * k := ⟨_, rfl⟩
        rw [← ho8] at hi c0 c1
        clear ho8
        by_cases h1 : 253 < d.length
        · have HX2 := Lib.hid (HX.out (.inl h1))
          clear HX HG
          go_wp2_with fail
          go_ret
          exact ⟨opt_ret HX2.out.symm, HB.out.alloc HB.out.size _⟩
        · by_cases h2 : 2048 < n + (d.length + 2)
          · have HX2 := Lib.hid (HX.out (.inr h2))
            clear HX HG
            go_wp2_with fail
            go_ret
            exact ⟨opt_ret HX2.out.symm, HB.out.alloc HB.out.size _⟩
          · have HG2 := Lib.hid (HG.out (by omega) (by omega))
            clear HX HG
            go_wp2_with fail
            go_roundw
            case rel => exact ⟨k + 1, by omega, by go_num, by rw [HW.out]; go_num, HG2.out, HB.out.alloc HB.out.size _⟩
            case measure => simp [intOf]; omega
      · obtain rfl : k = os.length := by omega
        have HG : Hid (Opt.code os = 0) := Lib.hid (Opt.code_good os HK.out (by have := HF.out; rwa [List.take_length] at this))
        go_wp2_with fail
        go_ret
        exact ⟨opt_ret HG.out.symm, HB.out⟩
theorem kind_byte (z : Int) (h : 0 ≤ z ∧ z ≤ 255) : z = ((UInt8.ofNat z.toNat).toNat : Int) := by simp; omega
theorem len_byte (n : Nat) (h : n ≤ 253) : (2 + (n : Int)) = ((UInt8.ofNat (n + 2)).toNat : Int) := by simp; omega
set_option maxHeartbeats 800000 in
theorem put_good_any (v : Value) (os : List Opt.Op) (w : World) (hr : ReadsO w v os) (hl : os.length ≤ 4611686018427387904) (h0 : Opt.code os = 0) :
    Calls Tryz.prog 59 #[v] w fun e w' => e = .returned (.tuple #[.string ⟨(Opt.wires os).toArray⟩, .int .i64 0]) ∧ Below w.heap.size w w' := by
  have J := judge_any v os w hr hl
  rw [h0] at J
  have J := Lib.hid J
  obtain ⟨hgd, hln⟩ : (∀ o ∈ os, (0 ≤ o.1 ∧ o.1 ≤ 255) ∧ o.2.length ≤ 253) ∧ (Opt.wires os).length ≤ 2048 := by
    rcases Opt.code_ways os with ⟨_, h⟩ | ⟨_, _, h⟩ | ⟨h1, h2, _⟩
    · omega
    · omega
    · obtain ⟨h3, h4⟩ := Opt.fits_short os h2
      refine ⟨fun o ho => ⟨?_, ?_⟩, h4⟩
      · simpa [Opt.kindOk] using List.all_eq_true.1 h1 o ho
      · simpa [Opt.short] using List.all_eq_true.1 h3 o ho
  have HGD := Lib.hid hgd
  clear h0 hgd
  obtain ⟨q, cap, b, off, rfl, _, _, hi, hc⟩ := hr.at
  have HI := Lib.hid hi
  have HC := Lib.hid hc
  clear hi hc hr
  go_enter Tryz.func59, Tryz.ntmps59
  go_wp2_with fail
  refine J.out.mono ?_
  rintro e w1 ⟨rfl, hb1⟩
  have HB1 := Lib.hid hb1
  have HN := Lib.hid (Tryz.kNew w1)
  have HB2 := Lib.hid ((Below.refl w1.heap.size w1).alloc (Nat.le_refl _) (.cells #[.pointer none, .slice none 0 0] 150))
  clear hb1
  go_wp2_with fail
  go_loopw [15] (fun i wr => ∃ k : Nat, k ≤ os.length ∧ i = .int .i64 k ∧ Tryz.IsB w1.heap.size w1.heap.size (Opt.wires (os.take k)) wr ∧ Below w1.heap.size w1 wr) (fun i _ => os.length - (intOf i).toNat)
  case atStart => exact ⟨0, Nat.zero_le _, rfl, HN.out, HB2.out⟩
  case round =>
    obtain ⟨k, hk, rfl, hB, hb⟩ := hrel
    have HB := Lib.hid hB
    have Hb := Lib.hid hb
    clear hB hb
    by_cases hlt : k < os.length
    · have hi := HI.out k hlt
      obtain ⟨c0, c1⟩ := HC.out k hlt
      rw [← HB1.out.cell (block_lt_of_cell c0)] at c0
      rw [← HB1.out.cell (block_lt_of_cell c1)] at c1
      rw [← Hb.out.cell (block_lt_of_cell c0)] at c0
      rw [← Hb.out.cell (block_lt_of_cell c1)] at c1
      have HW := Lib.hid (Opt.wires_snoc os k hlt)
      have hwl := Opt.wires_take_le os k
      obtain ⟨hz, hd⟩ := HGD.out os[k] (List.getElem_mem hlt)
      generalize os[k] = o at *
      obtain ⟨z, d⟩ := o
      dsimp only at c0 c1 hz hd
      obtain ⟨o8, ho8⟩ : ∃ o8, o8 = off + 2 * k := ⟨_, rfl⟩
      rw [← ho8] at hi c0 c1
      clear ho8
      generalize Opt.wires (os.take k) = wl at *
      have HBa := Lib.hid (Lib.IsBuilderF.alloc HB.out (.cells #[.int .i64 z, .string ⟨d.toArray⟩] 82))
      have Hba := Lib.hid (Hb.out.alloc Hb.out.size (.cells #[.int .i64 z, .string ⟨d.toArray⟩] 82))
      have HX := Lib.hid (heap_alloc_new wr (.cells #[.int .i64 z, .string ⟨d.toArray⟩] 82))
      have hne : wr.heap.size ≠ w1.heap.size := by
        intro e
        rcases HB.out with h | h
        · have := h.lt; omega
        · have := h.lt; omega
      have HNE := Lib.hid hne
      clear hne
      go_wp2_with fail
      (with_reducible refine (Tryz.kByte w1.heap.size w1.heap.size wl (UInt8.ofNat z.toNat) _ _ HBa.out (kind_byte z hz) (by omega) Hba.out.size).mono ?_)
      rintro e w2 ⟨rfl, hI2, hb2, ho2⟩
      have HX2 := Lib.hid (ho2.block HX.out HNE.out (by decide))
      have HB2 := Lib.hid hI2
      have Hb2 := Lib.hid (Hba.out.trans hb2)
      have k1 : w2.cell? ⟨wr.heap.size, 1, none⟩ = some (.string ⟨d.toArray⟩) := by rw [Lib.cell_of_heap HX2.out]; rfl
      have HK1 := Lib.hid k1
      clear hI2 hb2 ho2 c0 c1
      go_wp2_with fail
      (with_reducible refine (Tryz.kByte w1.heap.size w1.heap.size _ (UInt8.ofNat (d.length + 2)) _ _ HB2.out (len_byte d.length hd) (by simp; omega) Hb2.out.size).mono ?_)
      rintro e w3 ⟨rfl, hI3, hb3, ho3⟩
      have HX3 := Lib.hid (ho3.block HX2.out HNE.out (by decide))
      have HB3 := Lib.hid hI3
      have Hb3 := Lib.hid (Hb2.out.trans hb3)
      have k1 : w3.cell? ⟨wr.heap.size, 1, none⟩ = some (.string ⟨d.toArray⟩) := by rw [Lib.cell_of_heap HX3.out]; rfl
      clear hI3 hb3 ho3
      go_wp2_with fail
      refine (Tryz.kText w1.heap.size w1.heap.size _ d _ HB3.out (by simp; omega) Hb3.out.size).mono ?_
      rintro e w4 ⟨rfl, hI4, hb4, ho4⟩
      have HB4 := Lib.hid hI4
      have Hb4 := Lib.hid (Hb3.out.trans hb4)
      clear hI4 hb4 ho4 k1
      go_wp2_with fail
      go_roundw
      case rel => exact ⟨k + 1, by omega, by go_num, by rw [HW.out]; have := HB4.out; simp only [List.append_assoc] at this; exact this, Hb4.out⟩
      case measure => simp [intOf]; omega
    · obtain rfl : k = os.length := by omega
      go_wp2_with fail
      refine (Tryz.kAll w1.heap.size w1.heap.size _ _ HB.out Hb.out.size).mono ?_
      rintro e w2 ⟨rfl, hb2⟩
      have Hb2 := Lib.hid (Hb.out.trans hb2)
      clear hb2
      go_wp2_with fail
      go_ret2
      exact ⟨rfl, bel2 HB1.out Hb2.out⟩
set_option maxHeartbeats 400000 in
theorem put_bad_any (v : Value) (os : List Opt.Op) (w : World) (hr : ReadsO w v os) (hl : os.length ≤ 4611686018427387904) (h0 : Opt.code os ≠ 0) :
    Calls Tryz.prog 59 #[v] w fun e w' => e = .returned (.tuple #[.string ⟨#[]⟩, .int .i64 (Opt.code os)]) ∧ Below w.heap.size w w' := by
  have J := Lib.hid (judge_any v os w hr hl)
  have hq : (Opt.code os != 0) = true := by simpa using h0
  generalize Opt.code os = c at *
  clear h0 hr
  go_enter Tryz.func59, Tryz.ntmps59
  go_wp2_with fail
  refine J.out.mono ?_
  rintro e w1 ⟨rfl, hb1⟩
  have HB1 := Lib.hid hb1
  clear hb1
  go_wp2_with fail
  go_ret2
  exact ⟨rfl, HB1.out⟩
/-- The contract of Put. -/
theorem oput_any (v : Value) (os : List Opt.Op) (w : World) (hr : ReadsO w v os) (hl : os.length ≤ 4611686018427387904) :
    Calls Tryz.prog 59 #[v] w fun e w' => e = .returned (.tuple #[.string ⟨(Opt.put os).toArray⟩, .int .i64 (Opt.code os)]) ∧ Below w.heap.size w w' := by
  unfold Opt.put
  by_cases h : Opt.code os = 0
  · rw [if_pos h, h]
    exact put_good_any v os w hr hl h
  · rw [if_neg h]
    exact put_bad_any v os w hr hl h
end Go.Proofs.YteabkmelnoefiaaGreatDoor.O
namespace Go.Proofs.YteabkmelnoefiaaGreatDoor.O
open Go.RowKit
/-- One text behind the other. -/
abbrev Sums (a b c : List UInt8) : Prop := ∀ W : World, (Op.stringOp .add { data := a.toArray } { data := b.toArray }).run Tryz.prog W = .ok (.string { data := c.toArray }) W
theorem sums (a b : List UInt8) (h : a.length + b.length ≤ 9223372036854775807) : Sums a b (a ++ b) := fun W => by
  rw [run_string_add_sum W _ _ (by simp [ByteArray.size]; omega), ByteArray.mk_append_mk]
theorem two_cells (z : Int) (n : Nat) (h : 0 ≤ z ∧ z ≤ 255) : (#[Value.int .u8 z, Value.int .u8 (((n : Int) + 2) % 256)] : Array Value) = (Lib.byteCells [UInt8.ofNat z.toNat, UInt8.ofNat (n + 2)]).toArray := by
  have h1 : ((UInt8.ofNat z.toNat).toNat : Int) = z := by simp; omega
  have h2 : ((UInt8.ofNat (n + 2)).toNat : Int) = ((n : Int) + 2) % 256 := by simp
  simp only [Lib.byteCells, List.map_cons, List.map_nil, h1, h2]
/-- Bytes just laid in a block, as a text, behind a draw. -/
theorem conv_drew (w : World) (l : List UInt8) (cells : Array Value) (h : cells = (Lib.byteCells l).toArray) :
    (convert 113 9 (.slice (some ⟨w.heap.size, 0, none⟩) l.length l.length)).run Tryz.prog (w.alloc (.cells cells 5)).drew = .ok (.string ⟨l.toArray⟩) (w.alloc (.cells cells 5)).drew := by
  subst h
  refine run_convert_bytes_back _ 113 9 5 _ _ l Tryz.underlying113 Tryz.underlying5 Tryz.underlying9 ?_
  intro j hj
  exact new_cells w _ _ _ _ (by simp [Lib.byteCells, hj])
set_option maxRecDepth 100000 in
set_option maxHeartbeats 800000 in
theorem ropts_any (v : Value) (os : List Opt.Op) (w : World) (hr : ReadsO w v os) (hl : os.length ≤ 4611686018427387904) (hd : ∀ o ∈ os, o.2.length ≤ 4611686018427387904) :
    Calls Tryz.prog 65 #[v] w fun e w' => e = .returned (.tuple #[.string ⟨(Opt.put os).toArray⟩, .int .i64 (Opt.code os)]) ∧ Below w.heap.size w w' := by
  obtain ⟨q, cap, b, off, rfl, _, _, hi, hc⟩ := hr.at
  have HI := Lib.hid hi
  have HC := Lib.hid hc
  have HD := Lib.hid hd
  clear hi hc hr hd
  go_enter Tryz.func65, Tryz.ntmps65
  go_wp2_with fail
  go_loopw [6] (fun i wr => ∃ k : Nat, k ≤ os.length ∧ i = .int .i64 k ∧ Below w.heap.size w wr ∧ Hid ((os.take k).all Opt.kindOk = true)) (fun i _ => os.length - (intOf i).toNat)
  case atStart => exact ⟨0, Nat.zero_le _, rfl, Below.refl _ _, Lib.hid rfl⟩
  case round =>
    obtain ⟨k, hk, rfl, hb, HA⟩ := hrel
    have HB := Lib.hid hb
    clear hb
    by_cases hlt : k < os.length
    · have hi := HI.out k hlt
      obtain ⟨c0, c1⟩ := HC.out k hlt
      rw [← HB.out.cell (block_lt_of_cell c0)] at c0
      rw [← HB.out.cell (block_lt_of_cell c1)] at c1
      have HT : Hid (Opt.kindOk os[k] = true → (os.take (k + 1)).all Opt.kindOk = true) := Lib.hid fun e => by rw [Opt.take_snoc os k hlt, List.all_append, HA.out]; simp [e]
      have HF : Hid (Opt.kindOk os[k] = false → Opt.code os = 400 ∧ Opt.put os = []) := Lib.hid fun e => by
        have h : Opt.code os = 400 := Opt.code_bad os (List.all_eq_false.2 ⟨_, List.getElem_mem hlt, by rw [e]; simp⟩)
        exact ⟨h, if_neg (by rw [h]; decide)⟩
      generalize os[k] = o at *
      obtain ⟨z, d⟩ := o
      dsimp only at c0 c1
      obtain ⟨o8, ho8⟩ : ∃ o8, o8 = off + 2 * k := ⟨_, rfl⟩
      rw [← ho8] at hi c0 c1
      clear ho8
      by_cases h1 : 0 ≤ z ∧ z ≤ 255
      · have HT2 := Lib.hid (HT.out (by simpa [Opt.kindOk] using h1))
        obtain ⟨h1, h2⟩ := h1
        clear HT HF
        go_wp2_with fail
        go_roundw
        case rel => exact ⟨k + 1, by omega, by go_num, HB.out, HT2⟩
        case measure => simp [intOf]; omega
      · have HF2 := Lib.hid (HF.out (by simpa [Opt.kindOk] using h1))
        clear HT HF
        by_cases h2 : z < 0
        · clear h1
          go_wp2_with fail
          go_ret2
          exact ⟨by rw [HF2.out.1, HF2.out.2]; rfl, HB.out⟩
        · have h3 : 255 < z := by omega
          clear h1
          go_wp2_with fail
          go_ret2
          exact ⟨by rw [HF2.out.1, HF2.out.2]; rfl, HB.out⟩
    · obtain rfl : k = os.length := by omega
      have HK : Hid (os.all Opt.kindOk = true) := Lib.hid (by have := HA.out; rwa [List.take_length] at this)
      clear HA
      go_wp2_with fail
      go_loopw [4, 5, 7] (fun lg s i wr => ∃ k : Nat, k ≤ os.length ∧ i = .int .i64 k ∧ s = .string ⟨(Opt.wires (os.take k)).toArray⟩ ∧ lg = .bool (!(Opt.fits (os.take k))) ∧ Below w.heap.size w wr) (fun _ _ i _ => os.length - (intOf i).toNat)
      case atStart => exact ⟨0, Nat.zero_le _, rfl, rfl, rfl, HB.out⟩
      case round =>
        obtain ⟨k, hk, rfl, rfl, rfl, hb⟩ := hrel
        clear HB
        have HB := Lib.hid hb
        clear hb
        have HFI := Lib.hid (Opt.fits_take os k)
        cases hfk : Opt.fits (os.take k)
        · have HR : Hid (Opt.code os = 401 ∧ Opt.put os = []) := Lib.hid (by
            have hf := HFI.out hfk
            have h : Opt.code os = 401 := by unfold Opt.code; rw [HK.out, hf]; rfl
            exact ⟨h, if_neg (by rw [h]; decide)⟩)
          clear hfk
          by_cases hlt : k < os.length
          all_goals
            go_wp2_with fail
            go_ret2
            exact ⟨by rw [HR.out.1, HR.out.2]; rfl, HB.out⟩
        · have HFK := Lib.hid hfk
          clear hfk
          by_cases hlt : k < os.length
          · have hn := (Opt.fits_short _ HFK.out).2
            have hi := HI.out k hlt
            obtain ⟨c0, c1⟩ := HC.out k hlt
            rw [← HB.out.cell (block_lt_of_cell c0)] at c0
            rw [← HB.out.cell (block_lt_of_cell c1)] at c1
            have hblk : b < wr.heap.size := block_lt_of_cell c0
            have HW := Lib.hid (Opt.wires_snoc os k hlt)
            have HN := Lib.hid (Opt.fits_snoc os k hlt)
            have HS := Lib.hid (Opt.fits_short _ HFK.out).1
            have hkz : 0 ≤ os[k].1 ∧ os[k].1 ≤ 255 := by simpa [Opt.kindOk] using List.all_eq_true.1 HK.out _ (List.getElem_mem hlt)
            have hdl := HD.out _ (List.getElem_mem hlt)
            generalize os[k] = o at *
            obtain ⟨z, d⟩ := o
            dsimp only at c0 c1 hkz hdl
            obtain ⟨o8, ho8⟩ : ∃ o8, o8 = off + 2 * k := ⟨_, rfl⟩
            rw [← ho8] at hi c0 c1
            clear ho8
            generalize Opt.wires (os.take k) = wl at *
            obtain ⟨T, hT⟩ : ∃ T, T = [UInt8.ofNat z.toNat, UInt8.ofNat (d.length + 2)] := ⟨_, rfl⟩
            have hTl : T.length = 2 := by rw [hT]; rfl
            have hcv := conv_drew wr T _ (hT ▸ two_cells z d.length hkz)
            rw [hTl] at hcv
            obtain ⟨wl2, hwl2⟩ : ∃ wl2, wl2 = wl ++ T := ⟨_, rfl⟩
            have r1 := sums wl T (by omega)
            rw [← hwl2] at r1
            have h2l : wl2.length = wl.length + 2 := by rw [hwl2, List.length_append, hTl]
            have r2 := sums wl2 d (by omega)
            obtain ⟨wl3, hwl3⟩ : ∃ wl3, wl3 = wl2 ++ d := ⟨_, rfl⟩
            rw [← hwl3] at r2
            have hl3 : wl3.length = wl.length + (d.length + 2) := by rw [hwl3, List.length_append, h2l]; omega
            have HW4 : Hid (Opt.wires (os.take (k + 1)) = wl3) := Lib.hid (by rw [HW.out, hwl3, hwl2, hT]; simp [Opt.one])
            have HL3 := Lib.hid hl3
            unfold Sums at r1 r2
            clear hwl2 hwl3 hl3 hT hTl h2l HW
            obtain ⟨hk1, hk2⟩ := hkz
            have hg3 : wl3.length ≤ 9223372036854775807 := by rw [HL3.out]; omega
            by_cases hlong : 253 < d.length
            · have HN2 : Hid (Opt.fits (os.take (k + 1)) = false) := Lib.hid (by rw [HN.out]; have : Opt.short (z, d) = false := decide_eq_false (by show ¬ d.length ≤ 253; omega); rw [this]; simp)
              clear HN
              go_wp2_with fail
              go_region
              go_wp2_with fail
              go_roundw
              case rel => exact ⟨k + 1, by omega, by go_num, by rw [HW4.out], by rw [HN2.out]; rfl, (HB.out.alloc HB.out.size _).drew⟩
              case measure => simp [intOf]; omega
            · rw [show (d.length : Int) + 2 = ((d.length + 2 : Nat) : Int) by omega, show (((d.length + 2 : Nat) : Int)) % 256 = (d.length : Int) + 2 by omega] at hcv
              by_cases hover : 2048 < wl3.length
              · have HN2 : Hid (Opt.fits (os.take (k + 1)) = false) := Lib.hid (by rw [HN.out, decide_eq_false (by have := HL3.out; show ¬ wl.length + (d.length + 2) ≤ 2048; omega), Bool.and_false])
                clear HN
                go_wp2_with fail
                go_region
                go_wp2_with fail
                go_roundw
                case rel => exact ⟨k + 1, by omega, by go_num, by rw [HW4.out], by rw [HN2.out, decide_eq_false (show ¬ (253 : Int) < (d.length : Int) by omega), decide_eq_true (show (2048 : Int) < (wl3.length : Int) by omega)]; rfl, (HB.out.alloc HB.out.size _).drew⟩
                case measure => simp [intOf]; omega
              · have HN2 : Hid (Opt.fits (os.take (k + 1)) = true) := Lib.hid (by
                  have h1 : Opt.short (z, d) = true := decide_eq_true (by show d.length ≤ 253; omega)
                  rw [HN.out, decide_eq_true (by have := HL3.out; show wl.length + (d.length + 2) ≤ 2048; omega), h1, HS.out]; rfl)
                clear HN
                go_wp2_with fail
                go_region
                go_wp2_with fail
                go_roundw
                case rel => exact ⟨k + 1, by omega, by go_num, by rw [HW4.out], by rw [HN2.out, decide_eq_false (show ¬ (253 : Int) < (d.length : Int) by omega), decide_eq_false (show ¬ (2048 : Int) < (wl3.length : Int) by omega)]; rfl, (HB.out.alloc HB.out.size _).drew⟩
                case measure => simp [intOf]; omega
          · obtain rfl : k = os.length := by omega
            have HR : Hid (Opt.code os = 0 ∧ Opt.put os = Opt.wires (os.take os.length)) := Lib.hid (by
              have hf := HFK.out
              rw [List.take_length] at hf ⊢
              have h : Opt.code os = 0 := Opt.code_good os HK.out hf
              exact ⟨h, if_pos h⟩)
            go_wp2_with fail
            go_ret2
            exact ⟨by rw [HR.out.1, HR.out.2]; rfl, HB.out⟩
end Go.Proofs.YteabkmelnoefiaaGreatDoor.O
