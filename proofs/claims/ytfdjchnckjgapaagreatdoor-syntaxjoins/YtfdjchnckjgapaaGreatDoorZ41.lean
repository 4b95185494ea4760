/-
  Fmt16
-/
import Derived.Test.YtfdjchnckjgapaaGreatDoorZ07
import Derived.BigQuiet
import Derived.Laws.BitsAllLaws
namespace Go.Proofs.YtfdjchnckjgapaaGreatDoor
open Go.RowKit Go.Shelf S1
set_option linter.unusedVariables false
def digF:Nat->Nat->List Nat
 | 0,_=>[]
 | k+1,n=>if n<16 then [n] else digF k (n / 16)++[n % 16]
def digL (n:Nat):List Nat:=digF 6 n
def upC (d:Nat):Int:=if d<10 then 48+(d:Int) else 55+(d:Int)
theorem digF_small {k n:Nat} (h:n<16):digF (k+1) n=[n]:=by unfold digF;rw [if_pos h]
theorem digF_great {k n:Nat} (h:16<=n):digF (k+1) n=digF k (n / 16)++[n % 16]:=by rw [digF];rw [if_neg (by omega)]
theorem digF_lt:∀(k n:Nat),∀d∈digF k n,d<16
 | 0,n,d,h=>by cases h
 | k+1,n,d,h=>by
  by_cases q:n<16
  · rw [digF_small q] at h;obtain rfl:d=n:=by simpa using h
    exact q
  · rw [digF_great (by omega)] at h;rcases List.mem_append.1 h with h | h
    · exact digF_lt k (n / 16) d h
    · obtain rfl:d=n % 16:=by simpa using h
      omega
theorem digF_len:∀(k n:Nat),(digF k n).length<=k
 | 0,n=>by simp [digF]
 | k+1,n=>by
  by_cases q:n<16
  · rw [digF_small q];simp
  · rw [digF_great (by omega)];have:=digF_len k (n / 16);simp;omega
theorem digF_short:∀(k n:Nat),n<16777216->(digF k n).length<=7
 | k,n,h=>by
  rcases Nat.lt_or_ge k 7 with q | q
  · have:=digF_len k n;omega
  · obtain ⟨j,rfl⟩ :∃j,k=j+7:=⟨k-7,by omega⟩;have s0:∀(k n b:Nat),n<16*b->(∀m,m<b->(digF k m).length<=6)->(digF (k+1) n).length<=7:=λk n b h1 h2=>by
     by_cases q:n<16
     · rw [digF_small q];simp
     · rw [digF_great (by omega)];have:=h2 (n / 16) (by omega);simp;omega
    have step:∀(c:Nat) (k b:Nat),(∀m,m<b->(digF k m).length<=c)->∀m,m<16*b->(digF (k+1) m).length<=c+1:=λc k b h2 m hm=>by
     by_cases q:m<16
     · rw [digF_small q];simp
     · rw [digF_great (by omega)];have:=h2 (m / 16) (by omega);simp;omega
    have h1:∀m,m<16->(digF (j+1) m).length<=1:=λm hm=>by rw [digF_small hm];simp
    have h2:=step 1 (j+1) 16 h1;have h3:=step 2 (j+2) (16*16) h2;have h4:=step 3 (j+3) (16*(16*16)) h3;have h5:=step 4 (j+4) (16*(16*(16*16))) h4;have h6:=step 5 (j+5) (16*(16*(16*(16*16)))) h5;have:=step 6 (j+6) (16*(16*(16*(16*(16*16))))) h6 n (by omega);exact this
end Go.Proofs.YtfdjchnckjgapaaGreatDoor
