/-
  Plain mathematics of processes' calls: what they find, and change.
-/
import Derived.Test.YthfeoiffoeagkaaGreatDoorZA13
import Derived.Test.YthfeoiffoeagkaaGreatDoorZA14
namespace Go.Proofs.YthfeoiffoeagkaaGreatDoor
open Go.RowKit PM Go.Sort
set_option linter.unusedVariables false
namespace PM
structure Cl where
 kind:Int
 owner:Int
 fd:Int
 n:Int
 m:Int
 path:ByteArray
 to:ByteArray
 text:ByteArray
 alone:Bool
structure An where
 err:Int
 n:Int
 text:ByteArray
 names:List (List UInt8)
structure Fl where
 path:ByteArray
 text:ByteArray
 locks:List LK.Lk
structure Opn where
 file:Nat
 use:Int
 pos:Int
structure Sy where
 up:List Ent
 lows:List (List Ent)
 files:List Fl
 opens:List Opn
 fds:Nat→Option Nat
def Sy.all (s:Sy):List (List Ent):=s.up::s.lows
def Sy.seen (s:Sy):List Ent:=aB s.all
def Sy.fileOf (s:Sy) (j:Nat):Nat:=((s.opens[j]?).map (·.file)).getD 0
def addF (out:List Nat) (f:Nat):List Nat:=if f∈out then out else out++[f]
def Sy.aZ (s:Sy):Nat→List Nat
 | 0=>[]
 | k+1=>match s.fds k with
  | none=>s.aZ k
  | some j=>addF (s.aZ k) (s.fileOf j)
def Sy.reach (s:Sy):List Nat:=s.aZ 32
def Sy.textOf (s:Sy) (f:Fl):ByteArray:=if f.path.data.toList=[] then f.text else ((getL s.seen f.path.data.toList).getD zeroE).text
theorem mQ (s:Sy):∀ k,(s.aZ k).length≤k
 | 0=>by simp [Sy.aZ]
 | k+1=>by
  have:=mQ s k
  rw [Sy.aZ]
  split
  ·omega
  ·unfold addF
   split
   ·omega
   ·simp;omega
theorem zu {s:Sy} {n:Nat} (h:∀ k j,s.fds k=some j→s.fileOf j<n):∀ k,∀ f∈s.aZ k,f<n
 | 0,f,hf=>by simp [Sy.aZ] at hf
 | k+1,f,hf=>by
  have ih:=zu h k
  rw [Sy.aZ] at hf
  split at hf
  ·exact ih f hf
  ·rename_i j hj
   unfold addF at hf
   split at hf
   ·exact ih f hf
   ·rcases List.mem_append.1 hf with hf | hf
    ·exact ih f hf
    ·simp at hf;rw [hf];exact h k j hj
theorem oM (s:Sy):∀ k,(s.aZ k).Nodup
 | 0=>by simp [Sy.aZ]
 | k+1=>by
  have ih:=oM s k
  rw [Sy.aZ]
  split
  ·exact ih
  ·unfold addF
   split
   ·exact ih
   ·rename_i hn
    rw [List.nodup_append]
    refine ⟨ih,by simp,fun a ha b hb=>?_⟩
    simp at hb
    rw [hb]
    rintro rfl
    exact hn ha
end PM
end Go.Proofs.YthfeoiffoeagkaaGreatDoor
