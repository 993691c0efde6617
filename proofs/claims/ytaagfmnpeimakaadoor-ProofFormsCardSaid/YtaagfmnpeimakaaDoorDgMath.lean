/-
  Stage 13, plain: MD5 as a function on lists of bytes.
-/
namespace Go.Proofs.YtaagfmnpeimakaaDoor.Dig
def sines : List (BitVec 32) := [3614090360#32, 3905402710#32, 606105819#32, 3250441966#32, 4118548399#32, 1200080426#32, 2821735955#32, 4249261313#32, 1770035416#32, 2336552879#32, 4294925233#32, 2304563134#32, 1804603682#32, 4254626195#32, 2792965006#32, 1236535329#32, 4129170786#32, 3225465664#32, 643717713#32, 3921069994#32, 3593408605#32, 38016083#32, 3634488961#32, 3889429448#32, 568446438#32, 3275163606#32, 4107603335#32, 1163531501#32, 2850285829#32, 4243563512#32, 1735328473#32, 2368359562#32, 4294588738#32, 2272392833#32, 1839030562#32, 4259657740#32, 2763975236#32, 1272893353#32, 4139469664#32, 3200236656#32, 681279174#32, 3936430074#32, 3572445317#32, 76029189#32, 3654602809#32, 3873151461#32, 530742520#32, 3299628645#32, 4096336452#32, 1126891415#32, 2878612391#32, 4237533241#32, 1700485571#32, 2399980690#32, 4293915773#32, 2240044497#32, 1873313359#32, 4264355552#32, 2734768916#32, 1309151649#32, 4149444226#32, 3174756917#32, 718787259#32, 3951481745#32]
def turns : List Nat := [7, 12, 17, 22, 5, 9, 14, 20, 4, 11, 16, 23, 6, 10, 15, 21]
def turn (i : Nat) : Nat := turns.getD (i / 16 * 4 + i % 4) 0
def mix (i : Nat) (x c d : BitVec 32) : BitVec 32 := match i / 16 with
  | 0 => (x &&& c) ||| ((x ^^^ 4294967295#32) &&& d)
  | 1 => (d &&& x) ||| ((d ^^^ 4294967295#32) &&& c)
  | 2 => x ^^^ c ^^^ d
  | _ => c ^^^ (x ||| (d ^^^ 4294967295#32))
def pick (i : Nat) : Nat := match i / 16 with
  | 0 => i
  | 1 => (5 * i + 1) % 16
  | 2 => (3 * i + 5) % 16
  | _ => 7 * i % 16
structure St where
  a : BitVec 32
  x : BitVec 32
  c : BitVec 32
  d : BitVec 32
deriving DecidableEq
def rolled (f : BitVec 32) (t : Nat) : BitVec 32 := (f <<< t) ||| (f >>> (32 - t))
def step (m : List (BitVec 32)) (i : Nat) (s : St) : St :=
  ⟨s.d, s.x + rolled (mix i s.x s.c s.d + s.a + sines.getD i 0 + m.getD (pick i) 0) (turn i), s.x, s.c⟩
def run (m : List (BitVec 32)) (s : St) : Nat → St
  | 0 => s
  | n + 1 => step m n (run m s n)
def word (b : List UInt8) (i : Nat) : BitVec 32 :=
  BitVec.ofNat 32 (b.getD (4 * i) 0).toNat ||| (BitVec.ofNat 32 (b.getD (4 * i + 1) 0).toNat <<< 8) ||| (BitVec.ofNat 32 (b.getD (4 * i + 2) 0).toNat <<< 16) ||| (BitVec.ofNat 32 (b.getD (4 * i + 3) 0).toNat <<< 24)
def words (b : List UInt8) : List (BitVec 32) := (List.range 16).map (word b)
def join (h r : St) : St := ⟨h.a + r.a, h.x + r.x, h.c + r.c, h.d + r.d⟩
def block (h : St) (b : List UInt8) : St := join h (run (words b) h 64)
def blocks (h : St) (b : List UInt8) : Nat → St
  | 0 => h
  | n + 1 => block (blocks h b n) ((b.drop (64 * n)).take 64)
def zeros (k : Nat) : List UInt8 := List.replicate k 0
def len8 (n : Nat) : List UInt8 := (List.range 8).map fun j => UInt8.ofNat (8 * n / 256 ^ j)
def pad (l : List UInt8) : List UInt8 := l ++ [128] ++ zeros ((119 - l.length % 64) % 64) ++ len8 l.length
def init : St := ⟨1732584193#32, 4023233417#32, 2562383102#32, 271733878#32⟩
def four (x : BitVec 32) : List UInt8 := (List.range 4).map fun j => UInt8.ofNat (x.toNat / 256 ^ j)
def out (s : St) : List UInt8 := four s.a ++ four s.x ++ four s.c ++ four s.d
def md5 (l : List UInt8) : List UInt8 := out (blocks init (pad l) ((pad l).length / 64))
def dig (n : Nat) : UInt8 := ([48, 49, 50, 51, 52, 53, 54, 55, 56, 57, 97, 98, 99, 100, 101, 102] : List UInt8).getD n 0
def hex (l : List UInt8) : List UInt8 := l.flatMap fun b => [dig (b.toNat / 16), dig (b.toNat % 16)]
theorem known_abc : hex (md5 [97, 98, 99]) = [57, 48, 48, 49, 53, 48, 57, 56, 51, 99, 100, 50, 52, 102, 98, 48, 100, 54, 57, 54, 51, 102, 55, 100, 50, 56, 101, 49, 55, 102, 55, 50] := by decide +kernel
end Go.Proofs.YtaagfmnpeimakaaDoor.Dig
