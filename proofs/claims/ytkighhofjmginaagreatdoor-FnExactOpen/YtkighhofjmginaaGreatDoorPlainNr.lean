import Derived.Test.YtkighhofjmginaaGreatDoorG02
import Derived.Test.YtkighhofjmginaaGreatDoorG01
namespace Go.Proofs.YtkighhofjmginaaGreatDoor
namespace WSp
def nr (x:Pl.Ns):Int × Bool:=(x.d,(Pl.nest (Pl.rowO (x.Is.map Pl.It.r))).isSome)
end WSp
end Go.Proofs.YtkighhofjmginaaGreatDoor
