/-
  Plain mathematics of the digest: the four numbers, their steps, their bytes; nothing of the program's text.
-/
import Derived.WalkKit
import Derived.Laws.BytesArg
set_option linter.unusedVariables false
namespace Go.Proofs.YtpmmilnoeoapoaaGreatDoor.Dg
open Go

/-- sums and products modulo 2^64 -/
def wu (x : Int) : Int := IntKind.u64.wrap x
/-- exclusive or of two numbers of 64 bits -/
def xr (a b : Int) : Int := bits BinOp.xor IntKind.u64 a b
/-- one byte's step of one of the four numbers -/
def stp (h : Int) (c : UInt8) : Int :=
  xr (wu (xr h (wu (c.toNat : Int)) * 1099511628211)) (wu (xr h (wu (c.toNat : Int)) * 1099511628211) / 536870912)
/-- all bytes' steps -/
def run (l : List UInt8) (h : Int) : Int := l.foldl stp h
/-- the end of one number -/
def fin (h n : Int) : Int :=
  wu (xr (wu (xr h (wu n) * 1099511628211)) (wu (xr h (wu n) * 1099511628211) / 4294967296) * 1099511628211)
/-- a number's bytes, the greatest first -/
def nums (x : Int) : List Int := [x / 72057594037927936 % 256, x / 281474976710656 % 256, x / 1099511627776 % 256, x / 4294967296 % 256, x / 16777216 % 256, x / 65536 % 256, x / 256 % 256, x % 256]
def outN (a0 a1 a2 a3 n : Int) : List Int := nums (fin a0 n) ++ (nums (fin a1 n) ++ (nums (fin a2 n) ++ nums (fin a3 n)))
def out (a0 a1 a2 a3 n : Int) : ByteArray := strOfNums (outN a0 a1 a2 a3 n)
theorem out_size (a0 a1 a2 a3 n : Int) : (out a0 a1 a2 a3 n).size = 32 := by rw [out, strOfNums_size]; rfl
/-- the beginnings of the four numbers -/
def st0 : Int := 14695981039346656037
def st1 : Int := 7649951784960302906
def st2 : Int := 603922530573949775
def st3 : Int := 12004637349897148260

theorem e1 : IntKind.u64.wrap 26096695858669854522 = st1 := by decide +kernel
theorem e2 : IntKind.u64.wrap (IntKind.u64.wrap 22801429638646396970 + 14695981039346656037) = st2 := by decide +kernel
theorem e3 : IntKind.u64.wrap (IntKind.u64.wrap 34202144457969595455 + 14695981039346656037) = st3 := by decide +kernel

/-- the digest of a text -/
def sum (l : List UInt8) : ByteArray := out (run l st0) (run l st1) (run l st2) (run l st3) (l.length : Int)
theorem sum_size (l : List UInt8) : (sum l).size = 32 := out_size _ _ _ _ _

/-- the old digest of a text -/
def old (l : List UInt8) : ByteArray := (sum ([111, 108, 100, 58] ++ l)).extract 0 20
/-- 32 zero bytes -/
def zero : ByteArray := strOfNums (List.replicate 32 0)

/-- does a digest check? -/
def chk (l : List UInt8) (d : ByteArray) : Bool := if d.size = 20 then (old l).toList == d.toList else if d.size = 32 then (sum l).toList == d.toList else false
theorem old_size (l : List UInt8) : (old l).size = 20 := by
  unfold old
  rw [ByteArray.size_extract, sum_size]
  omega

theorem run_nil (h : Int) : run [] h = h := rfl
theorem run_snoc (l : List UInt8) (c : UInt8) (h : Int) : run (l ++ [c]) h = stp (run l h) c := by simp [run, List.foldl_append]
theorem run_append (l m : List UInt8) (h : Int) : run (l ++ m) h = run m (run l h) := by simp [run, List.foldl_append]

theorem take_snoc (s : ByteArray) (k : Nat) (h : k < s.size) : s.data.toList.take (k + 1) = s.data.toList.take k ++ [s[k]] := by
  rw [List.take_succ_eq_append_getElem (by simpa using h)]; rfl
theorem run_take (s : ByteArray) (k : Nat) (h : k < s.size) (x : Int) : run (s.data.toList.take (k + 1)) x = stp (run (s.data.toList.take k) x) s[k] := by
  rw [take_snoc s k h, run_snoc]
theorem take_all (s : ByteArray) (k : Nat) (h : s.size ≤ k) : s.data.toList.take k = s.data.toList := by
  rw [List.take_of_length_le (by simpa using h)]

end Go.Proofs.YtpmmilnoeoapoaaGreatDoor.Dg
